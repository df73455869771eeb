package timer

import (
	"slices"
	"testing"

	"cardnet/api"
)

func TestP17_1P17_2P17_3Limits(t *testing.T) {
	x := New()
	x.Set("a", 5)
	x.Set("b", 7)
	if x.Move("a", 6) != api.OK || x.Cancel("a") != api.OK || x.Set("c", api.MaxTime) != api.OK || x.Move("b", api.MaxTime) != api.OK {
		t.Error("the first timer, and the last time")
	}
	if l := x.Due(0); l != nil || x.Now() != 0 {
		t.Error(l)
	}
	x.Set("d", 0)
	if l := x.Due(0); !slices.Equal(l, []string{"d"}) {
		t.Error(l)
	}
	if l := x.Due(api.MaxTime); !slices.Equal(l, []string{"c", "b"}) {
		t.Error(l)
	}
}
