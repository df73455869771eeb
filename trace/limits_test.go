package trace

import (
	"testing"

	"cardnet/api"
)

func TestP12_2P12_4P12_5Limits(t *testing.T) {
	for sender, digit := range map[int]byte{0: '0', 9: '9'} {
		s, e := NewSource(sender)
		if e != api.OK {
			t.Fatal(sender, e)
		}
		if _, ref, _ := s.Next(0); ref[5] != digit {
			t.Error(ref)
		}
	}
	for _, horizon := range []int{1, api.MaxTime} {
		w, e := NewWindow(horizon)
		if e != api.OK {
			t.Fatal(horizon, e)
		}
		w.Seen(0, "a", "x")
		if _, ok := w.Seen(horizon-1, "a", "y"); !ok {
			t.Error(horizon)
		}
		if _, ok := w.Seen(horizon, "a", "y"); ok {
			t.Error(horizon)
		}
	}
	w, _ := NewWindow(10)
	for i, key := range []string{"a", "b", "c"} {
		w.Seen(i, key, "")
	}
	if n := w.Forget(100); n != 3 || w.Len() != 0 {
		t.Error(n)
	}
}
