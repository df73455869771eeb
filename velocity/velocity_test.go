package velocity

import (
	"strings"
	"testing"

	"cardnet/api"
)

func of(t *testing.T, horizon int) *Windows {
	t.Helper()
	w, e := New(horizon)
	if e != api.OK {
		t.Fatal(e)
	}
	return w
}

func TestP23_1P23_2Add(t *testing.T) {
	for _, h := range []int{0, -1, 10000001} {
		if w, e := New(h); w != nil || e != api.ErrRange {
			t.Error(h, e)
		}
	}
	w := of(t, 100)
	for i, e := range []api.Errno{w.Add("", -1, -1), w.Add(strings.Repeat("k", 41), -1, -1), w.Add("k", -1, -1), w.Add("k", api.MaxTime+1, 0), w.Add("k", 5, -1), w.Add("k", 5, api.MaxAmount+1), w.Add("k", 5, 0), w.Add("k", 4, -1), w.Add(strings.Repeat("k", 40), 5, api.MaxAmount)} {
		if e != []api.Errno{api.ErrName, api.ErrName, api.ErrTime, api.ErrTime, api.ErrRange, api.ErrRange, api.OK, api.ErrTime, api.OK}[i] {
			t.Error(i, e)
		}
	}
	for range 998 {
		w.Add("m", 6, 1)
	}
	if w.Len() != 1000 || w.Add("m", 104, 1) != api.ErrFull || w.Len() != 1000 || w.Add("m", 105, 1) != api.OK || w.Len() != 999 || w.Count("m", 105, 100) != 999 {
		t.Error(w.Len())
	}
	w.Remove("m", 105, 1)
	if w.Add("m", 104, 1) != api.ErrTime {
		t.Error("the last time is that of a use that was removed")
	}
}

func TestP23_3P23_7Remove(t *testing.T) {
	w := of(t, 100)
	w.Add("k", 1, 5)
	w.Add("j", 1, 5)
	w.Add("k", 1, 7)
	w.Add("k", 1, 5)
	before := w.Count("k", 9, 50)
	w.Add("k", 2, 5)
	for i, e := range []api.Errno{w.Remove("k", 2, 4), w.Remove("k", 3, 5), w.Remove("x", 2, 5), w.Remove("k", 2, 5), w.Remove("k", 2, 5)} {
		if e != []api.Errno{api.ErrNone, api.ErrNone, api.ErrNone, api.OK, api.ErrNone}[i] {
			t.Error(i, e)
		}
	}
	if w.Count("k", 9, 50) != before || w.Sum("k", 9, 50) != 17 || w.Count("j", 9, 50) != 1 || w.Len() != 4 {
		t.Error(w.Len())
	}
}

func TestP23_4P23_6Count(t *testing.T) {
	w := of(t, 100)
	w.Add("k", 10, 5)
	w.Add("k", 20, 7)
	w.Add("j", 20, 9)
	for i, c := range []struct {
		key        string
		at, window int
		n          int
		sum        int64
	}{{"k", 20, 10, 1, 7}, {"k", 20, 11, 2, 12}, {"k", 29, 10, 1, 7}, {"k", 30, 10, 0, 0}, {"k", 19, 100, 1, 5}, {"k", 9, 100, 0, 0}, {"k", 20, 0, 0, 0}, {"k", 20, 101, 0, 0}, {"k", -1, 50, 0, 0}, {"k", api.MaxTime + 1, 50, 0, 0}, {"x", 20, 50, 0, 0}, {"k", 109, 100, 2, 12}, {"k", 110, 100, 1, 7}} {
		if n, sum := w.Count(c.key, c.at, c.window), w.Sum(c.key, c.at, c.window); n != c.n || sum != c.sum {
			t.Error(i, n, sum)
		}
	}
	for window := 2; window <= 100; window++ {
		if w.Count("k", 60, window) < w.Count("k", 60, window-1) {
			t.Error(window)
		}
	}
}

func TestP23_5Forget(t *testing.T) {
	w := of(t, 100)
	w.Add("k", 10, 5)
	w.Add("k", 20, 7)
	w.Add("j", 21, 7)
	if at, ok := w.Last("k"); at != 20 || !ok {
		t.Error(at, ok)
	}
	if at, ok := w.Last("x"); at != 0 || ok {
		t.Error(at, ok)
	}
	for i, n := range []int{w.Forget(-1), w.Forget(api.MaxTime + 1), w.Forget(109), w.Forget(110), w.Forget(110)} {
		if n != []int{0, 0, 0, 1, 0}[i] {
			t.Error(i, n)
		}
	}
	if w.Forget(120) != 1 || w.Len() != 1 {
		t.Error(w.Len())
	}
	if _, ok := w.Last("k"); ok {
		t.Error("Last of forgotten uses")
	}
	for _, none := range []*Windows{nil, {}} {
		_, ok := none.Last("k")
		if none.Remove("k", 0, 0) != api.ErrNone || none.Count("k", 0, 1) != 0 || none.Sum("k", 0, 1) != 0 || ok || none.Forget(0) != 0 || none.Len() != 0 {
			t.Error("missing windows")
		}
	}
	if (*Windows)(nil).Add("k", 0, 0) != api.ErrNone {
		t.Error("nil windows")
	}
}
