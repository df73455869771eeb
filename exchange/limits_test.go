package exchange

import (
	"strings"
	"testing"

	"cardnet/api"
)

func TestP19_1P19_3Limits(t *testing.T) {
	for _, timeout := range []int{1, 100000} {
		x, e := New(timeout)
		if e != api.OK {
			t.Fatal(timeout, e)
		}
		x.Begin(0, "a", "")
		x.Begin(0, "b", "")
		reply(t, x, timeout-1, "a", strings.Repeat("x", api.MaxText), 1, api.OK)
		reply(t, x, timeout, "b", "", 2, api.OK)
	}
}
