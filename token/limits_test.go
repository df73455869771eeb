package token

import (
	"testing"

	"cardnet/api"
)

func TestP15_1P15_2Limits(t *testing.T) {
	v, e := New("4800000000", 12)
	if e != api.OK {
		t.Fatal(e)
	}
	for i, c := range []struct {
		until, at int
		want      api.Errno
	}{{api.MaxTime, api.MaxTime - 1, api.OK}, {api.MaxTime, api.MaxTime, api.ErrTime}, {0, api.MaxTime, api.OK}, {1, 0, api.OK}} {
		if _, e := v.Provision(number, api.Domain{Requestor: "a", Until: c.until}, c.at); e != c.want {
			t.Error(i, e)
		}
	}
	if _, e := New("480000000000", 13); e != api.ErrRange {
		t.Error(e)
	}
}
