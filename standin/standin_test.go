package standin

import (
	"strconv"
	"strings"
	"testing"

	"cardnet/api"
)

const (
	number = "4000000000000077"
	other  = "4111111111111111"
)

func of(t *testing.T) *StandIn {
	t.Helper()
	s, e := New([]Limit{{"homebank", 100, 250, 3}, {"second", 1000, 300, 9}})
	if e != api.OK {
		t.Fatal(e)
	}
	return s
}

func decide(t *testing.T, s *StandIn, at int, key, issuer, card string, amount int64, want bool, we api.Errno) {
	t.Helper()
	if ok, e := s.Decide(at, key, issuer, card, amount); ok != want || e != we {
		t.Error(at, key, ok, e)
	}
}

func used(t *testing.T, s *StandIn, card string, date int, sum int64, count int) {
	t.Helper()
	if x, n := s.Used(card, date); x != sum || n != count {
		t.Error(card, date, x, n)
	}
}

func keys(l []Advice) string {
	s := ""
	for _, a := range l {
		s += a.Key
	}
	return s
}

func TestP28_1New(t *testing.T) {
	for i, c := range []struct {
		l    []Limit
		want api.Errno
	}{{nil, api.OK}, {[]Limit{{"a-b", -1, 0, 0}}, api.ErrName}, {[]Limit{{"a", 0, 0, 0}, {"a", -1, 0, 0}}, api.ErrExists}, {[]Limit{{"a", -1, 0, 0}, {"", 0, 0, 0}}, api.ErrRange}, {[]Limit{{"a", api.MaxAmount + 1, 0, 0}}, api.ErrRange}, {[]Limit{{"a", 0, -1, 0}}, api.ErrRange}, {[]Limit{{"a", 0, api.MaxAmount + 1, 0}}, api.ErrRange}, {[]Limit{{"a", 0, 0, -1}}, api.ErrRange}, {[]Limit{{"a", 0, 0, 1001}}, api.ErrRange}, {[]Limit{{"a", api.MaxAmount, api.MaxAmount, 1000}}, api.OK}} {
		if s, e := New(c.l); e != c.want || (s == nil) != (e != api.OK) {
			t.Error(i, e)
		}
	}
}

func TestP28_2P28_8P28_9Decide(t *testing.T) {
	s := of(t)
	decide(t, s, -1, "", "", "", 0, false, api.ErrTime)
	decide(t, s, 100000*86400, "", "", "", 0, false, api.ErrTime)
	decide(t, s, 5, "", "", "", 0, false, api.ErrName)
	decide(t, s, 5, strings.Repeat("k", 41), "", "", 0, false, api.ErrName)
	decide(t, s, 5, "a", "", "4000000000000078", 0, false, api.ErrCard)
	decide(t, s, 5, "a", "", number, 0, false, api.ErrRange)
	decide(t, s, 5, "a", "", number, api.MaxAmount+1, false, api.ErrRange)
	for key, want := range map[string]bool{"a": true} {
		decide(t, s, 5, key, "homebank", number, 100, want, api.OK)
	}
	decide(t, s, 6, "b", "homebank", number, 100, true, api.OK)
	decide(t, s, 7, "c", "homebank", number, 100, false, api.OK)
	decide(t, s, 7, "d", "homebank", number, 50, true, api.OK)
	decide(t, s, 8, "e", "homebank", number, 1, false, api.OK)
	decide(t, s, 8, "a", "x", other, 9999, true, api.OK)
	decide(t, s, 8, "c", "second", other, 1, false, api.OK)
	decide(t, s, 8, "a", "x", "1", 9999, false, api.ErrCard)
	used(t, s, number, 0, 250, 3)
	decide(t, s, 8, "f", "nobody", other, 1, false, api.OK)
	decide(t, s, 8, "g", "homebank", other, 101, false, api.OK)
	decide(t, s, 8, "h", "second", number, 51, false, api.OK)
	decide(t, s, 8, "i", "second", number, 50, true, api.OK)
	decide(t, s, 86400, "j", "homebank", number, 100, true, api.OK)
	decide(t, s, 0, strings.Repeat("k", 40), "homebank", other, 100, true, api.OK)
	used(t, s, number, 0, 300, 4)
	used(t, s, number, 1, 100, 1)
	full := of(t)
	for i := range api.MaxAuths {
		full.Decide(0, strconv.Itoa(i), "homebank", number, 1)
	}
	decide(t, full, 0, "more", "homebank", number, 1, false, api.ErrFull)
	decide(t, full, 0, "0", "homebank", number, 1, true, api.OK)
}

func TestP28_3P28_4P28_5P28_10Advices(t *testing.T) {
	s := of(t)
	for _, key := range []string{"a", "b", "x", "d"} {
		s.Decide(5, key, "homebank", number, map[string]int64{"a": 100, "b": 100, "x": 101, "d": 50}[key])
	}
	s.Decide(6, "z", "second", other, 5)
	if l := s.Waiting("homebank"); keys(l) != "abd" || l[2] != (Advice{"d", "homebank", number, 50, 5}) || keys(s.Waiting("second")) != "z" || s.Waiting("x") != nil {
		t.Error(l)
	}
	for i, e := range []api.Errno{s.Ack("a"), s.Ack("a"), s.Reverse("b"), s.Reverse("b"), s.Ack("b"), s.Reverse("x"), s.Reverse("none"), s.Ack("x"), s.Ack("none")} {
		if e != []api.Errno{api.OK, api.ErrNone, api.OK, api.ErrState, api.ErrNone, api.ErrState, api.ErrNone, api.ErrNone, api.ErrNone}[i] {
			t.Error(i, e)
		}
	}
	if keys(s.Waiting("homebank")) != "d" || s.Reverse("a") != api.OK {
		t.Error("an acknowledged approval can be reversed")
	}
	used(t, s, number, 0, 50, 1)
}

func TestP28_6P28_7Queries(t *testing.T) {
	s := of(t)
	s.Decide(5, "a", "homebank", number, 100)
	s.Decide(5, "b", "homebank", number, 101)
	s.Reverse("a")
	for key, want := range map[string][2]bool{"a": {true, true}, "b": {false, true}, "c": {false, false}} {
		if approved, known := s.Decision(key); approved != want[0] || known != want[1] {
			t.Error(key, approved, known)
		}
	}
	used(t, s, "x", -5, 0, 0)
	for _, none := range []*StandIn{nil, {}} {
		decide(t, none, 5, "a", "homebank", number, 1, false, api.ErrNone)
		used(t, none, number, 0, 0, 0)
		if none.Reverse("a") != api.ErrNone || none.Ack("a") != api.ErrNone || none.Waiting("homebank") != nil {
			t.Error("missing stand-in")
		}
		if _, known := none.Decision("a"); known {
			t.Error("missing stand-in")
		}
	}
}
