package timer

import (
	"slices"
	"strconv"
	"testing"

	"cardnet/api"
)

func TestP17_1SetMove(t *testing.T) {
	x := New()
	x.Due(5)
	for i, e := range []api.Errno{x.Set("", 0), x.Set("a b", 9), x.Set("a", 4), x.Set("a", api.MaxTime+1), x.Set("a", 5), x.Set("a", 4), x.Set("a", 6), x.Set("b-1", api.MaxTime), x.Move("x", 0), x.Move("a", 4), x.Move("a", api.MaxTime+1), x.Move("a", 7)} {
		if e != []api.Errno{api.ErrName, api.ErrName, api.ErrTime, api.ErrTime, api.OK, api.ErrTime, api.ErrExists, api.OK, api.ErrNone, api.ErrTime, api.ErrTime, api.OK}[i] {
			t.Error(i, e)
		}
	}
	for i := range api.MaxPending - 2 {
		if e := x.Set(strconv.Itoa(i), 8); e != api.OK {
			t.Error(i, e)
		}
	}
	if x.Set("more", 8) != api.ErrFull || x.Set("a", 8) != api.ErrExists || x.Len() != api.MaxPending {
		t.Error("full")
	}
	if at, ok := x.At("a"); at != 7 || !ok {
		t.Error(at, ok)
	}
}

func TestP17_2P17_3P17_5Due(t *testing.T) {
	set := func() *Timers {
		x := New()
		x.Set("a", 10)
		x.Set("b", 5)
		x.Set("c", 10)
		return x
	}
	x := set()
	if l := x.Due(10); !slices.Equal(l, []string{"b", "a", "c"}) || x.Now() != 10 || x.Set("d", 9) != api.ErrTime || x.Len() != 0 {
		t.Error(l)
	}
	x = set()
	x.Move("a", 10)
	if l := x.Due(7); !slices.Equal(l, []string{"b"}) {
		t.Error(l)
	}
	if l := x.Due(6); l != nil || x.Now() != 7 || x.Len() != 2 {
		t.Error(l)
	}
	if l := x.Due(api.MaxTime + 5); !slices.Equal(l, []string{"c", "a"}) || x.Now() != api.MaxTime {
		t.Error(l)
	}
	x = set()
	if x.Cancel("a") != api.OK || x.Cancel("a") != api.ErrNone {
		t.Error("Cancel")
	}
	if l := x.Due(99); !slices.Equal(l, []string{"b", "c"}) {
		t.Error(l)
	}
}

func TestP17_4Queries(t *testing.T) {
	x := New()
	if at, ok := x.Next(); at != 0 || ok || x.Now() != 0 || x.Len() != 0 {
		t.Error(at, ok)
	}
	x.Set("a", 10)
	x.Set("b", 5)
	if at, ok := x.Next(); at != 5 || !ok {
		t.Error(at, ok)
	}
	if at, ok := x.At("c"); at != 0 || ok {
		t.Error(at, ok)
	}
	for _, none := range []*Timers{nil, {}} {
		_, ok := none.Next()
		_, found := none.At("a")
		if none.Set("a", 1) != api.ErrNone || none.Move("a", 1) != api.ErrNone || none.Cancel("a") != api.ErrNone || none.Due(-1) != nil || ok || found || none.Now() != 0 || none.Len() != 0 || none.Due(0) != nil {
			t.Error("missing timers")
		}
	}
}
