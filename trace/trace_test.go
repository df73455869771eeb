package trace

import (
	"math"
	"strconv"
	"testing"

	"cardnet/api"
)

func TestP12_1P12_6Reference(t *testing.T) {
	if s, e := Reference(20, 3, 7); s != "000203000007" || e != api.OK {
		t.Error(s, e)
	}
	for _, c := range [][3]int{{-1, 0, 1}, {100000, 0, 1}, {0, -1, 1}, {0, 10, 1}, {0, 0, 0}, {0, 0, 1000000}} {
		if s, e := Reference(c[0], c[1], c[2]); s != "" || e != api.ErrRange {
			t.Error(c, s, e)
		}
	}
	for _, c := range [][3]int{{0, 0, 1}, {99999, 9, 999999}, {20, 3, 7}} {
		s, _ := Reference(c[0], c[1], c[2])
		if d, x, n, e := Split(s); d != c[0] || x != c[1] || n != c[2] || e != api.OK {
			t.Error(s, d, x, n, e)
		}
	}
	for s, want := range map[string]api.Errno{"": api.ErrFormat, "00020300000": api.ErrFormat, "0002030000071": api.ErrFormat, "00020300000a": api.ErrFormat, "000203000000": api.ErrRange} {
		if d, x, n, e := Split(s); d != 0 || x != 0 || n != 0 || e != want {
			t.Error(s, e)
		}
	}
}

func TestP12_2Source(t *testing.T) {
	for _, n := range []int{-1, 10} {
		if s, e := NewSource(n); s != nil || e != api.ErrRange {
			t.Error(n, e)
		}
	}
	s, _ := NewSource(3)
	if n, ref, e := s.Next(-1); n != 0 || ref != "" || e != api.ErrTime {
		t.Error(n, ref, e)
	}
	if _, _, e := s.Next(100000 * 86400); e != api.ErrTime {
		t.Error(e)
	}
	if n, ref, e := s.Next(20*86400 + 5); n != 1 || ref != "000203000001" || e != api.OK {
		t.Error(n, ref, e)
	}
	for range 999998 {
		s.last++
	}
	if n, ref, _ := s.Next(0); n != 1 || ref != "000003000001" {
		t.Error(n, ref)
	}
	var none *Source
	if n, ref, e := none.Next(0); n != 0 || ref != "" || e != api.ErrNone {
		t.Error(n, ref, e)
	}
}

func TestP12_3Key(t *testing.T) {
	el := func(n int, v string) api.Element { return api.Element{Number: n, Value: v} }
	for i, c := range []struct {
		m    api.Message
		want string
	}{
		{api.Message{Type: 100, Elements: []api.Element{el(37, "000203000007")}}, "010/000203000007/"}, {api.Message{Type: 110, Elements: []api.Element{el(37, "000203000007")}}, "010/000203000007/"},
		{api.Message{Type: 420, Elements: []api.Element{el(56, "s"), el(37, "r"), el(37, "x")}}, "042/r/s"}, {api.Message{Type: 430, Elements: []api.Element{el(11, "n")}}, "042/n/"}, {api.Message{Type: 800}, "080//"}, {api.Message{}, "000//"},
		{api.Message{Type: -1}, ""}, {api.Message{Type: 10000}, ""}, {api.Message{Type: 9999, Elements: []api.Element{el(37, ""), el(11, "x")}}, "998//"}, {api.Message{Type: 121}, "012//"},
	} {
		if k := Key(c.m); k != c.want {
			t.Error(i, k)
		}
	}
}

func TestP12_4P12_5P12_7Window(t *testing.T) {
	for _, h := range []int{0, -1, api.MaxTime + 1} {
		if w, e := NewWindow(h); w != nil || e != api.ErrRange {
			t.Error(h, e)
		}
	}
	w, _ := NewWindow(10)
	for i, c := range []struct {
		at         int
		value, old string
		ok         bool
	}{{100, "x", "", false}, {109, "y", "x", true}, {110, "y", "", false}, {111, "z", "y", true}, {math.MinInt, "z", "y", true}, {119, "z", "y", true}, {120, "z", "", false}, {math.MaxInt, "m", "", false}, {math.MinInt, "q", "m", true}} {
		if v, ok := w.Seen(c.at, "a", c.value); v != c.old || ok != c.ok {
			t.Error(i, v, ok)
		}
	}
	w, _ = NewWindow(10)
	w.Seen(math.MinInt, "old", "v")
	if _, ok := w.Seen(math.MaxInt, "old", "w"); ok || w.Len() != 1 {
		t.Error("difference of distant times")
	}
	w, _ = NewWindow(10)
	w.Seen(100, "a", "x")
	w.Seen(105, "b", "y")
	if n := w.Forget(109); n != 0 || w.Len() != 2 {
		t.Error(n)
	}
	if n := w.Forget(110); n != 1 || w.Len() != 1 {
		t.Error(n)
	}
	for i := range api.MaxAuths - 1 {
		w.Seen(105, strconv.Itoa(i), "")
	}
	if v, ok := w.Seen(106, "b", ""); v != "y" || !ok || w.Len() != api.MaxAuths {
		t.Error(v, ok)
	}
	w.Seen(106, "more", "")
	if _, ok := w.Seen(106, "b", ""); ok || w.Len() != api.MaxAuths {
		t.Error("the first entry was not removed")
	}
	if _, ok := w.Seen(106, "more", ""); !ok {
		t.Error("the last entry was removed")
	}
	var none *Window
	if v, ok := none.Seen(1, "a", "b"); v != "" || ok || none.Forget(1) != 0 || none.Len() != 0 {
		t.Error("nil window")
	}
}
