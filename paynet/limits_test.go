package paynet

import (
	"strconv"
	"strings"
	"testing"

	"cardnet/api"
)

func TestP51_1Limits(t *testing.T) {
	for i, change := range []func(s *Setup){
		func(s *Setup) { s.Banks, s.Acquirers = s.Banks[:1], s.Acquirers[:1] },
		func(s *Setup) { s.Acquirers = []string{"a", "b", "c", "d"} },
		func(s *Setup) {
			s.Banks = append(s.Banks, Bank{Name: "x", Low: "60", High: "60", Cards: 8, Balance: api.MaxAmount}, Bank{Name: "y", Low: "61", High: "61", Cards: 1})
		},
	} {
		s := setup(t)
		change(&s)
		if _, e := New(s); e != api.OK {
			t.Error(i, e)
		}
	}
}

// The timeout of the switch is half of that of the acquirers, rounded up.
func TestP51Timeout(t *testing.T) {
	for timeout, at := range map[int]int{60: 31, 61: 32, 62: 32} {
		s := setup(t, api.Fault{Kind: api.FCut, A: 0, B: 1, Until: 100})
		s.Timeout = timeout
		n, _ := New(s)
		ref := buy(t, n, 0, 0, 10)
		advance(t, n, at)
		state(t, n, ref, 1, 0)
		advance(t, n, at+1)
		state(t, n, ref, 2, 10)
	}
}

func TestP51_4P51_5Events(t *testing.T) {
	n := of(t, api.Fault{Kind: api.FCut, A: 0, B: 3, From: 100, Until: 200})
	ref := buy(t, n, 0, 0, 10)
	advance(t, n, 10)
	n.Cancel(ref)
	if s := events(n); !strings.HasSuffix(s, "; 3@10 shopbank "+ref+" 0EUR") {
		t.Error(s)
	}
	advance(t, n, 100)
	lost := buy(t, n, 0, 0, 10)
	advance(t, n, 160)
	if s := events(n); !strings.HasSuffix(s, "; 3@160 shopbank "+lost+" 0EUR") {
		t.Error(s)
	}
	advance(t, n, 300)
	if !n.Quiet() {
		t.Error("not quiet")
	}
	sound(t, n, 20500)
}

func TestP51_5P51_8Ledger(t *testing.T) {
	n := of(t)
	ref := buy(t, n, 0, 0, 1000)
	advance(t, n, 10)
	n.Capture(ref, 1000, true)
	n.Clear()
	for i := range 14 {
		if e := n.Dispute("abcdefghijkl"+strconv.Itoa(10+i), ref+"-1", "fraud", 1, items("letter")); e != api.OK {
			t.Error(i, e)
		}
	}
	r := n.booked[ref+"-1"]
	r.Kind, r.Amount.Amount = api.RcRefund, 1
	for i := 15; i < api.MaxEntries-api.MaxCases; i++ {
		r.Id = "r" + strconv.Itoa(i)
		if e := n.process(r); e != api.OK {
			t.Error(i, e)
		}
	}
	r.Id = "more"
	if n.process(r) != api.ErrFull || n.Dispute("more", ref+"-1", "fraud", 1, items("letter")) != api.ErrFull || n.Step("abcdefghijkl10", 1, items("receipt")) != api.ErrFull {
		t.Error("a full ledger")
	}
	advance(t, n, 46*day)
	if l := n.ledger.Entries(); len(l) != api.MaxEntries-api.MaxCases || n.desk.Cases()[0].Stage != api.DsWon {
		t.Error(len(l))
	}
	advance(t, n, 100*day)
	for date, want := range map[int]api.Errno{109: api.ErrState, 110: api.ErrState, 111: api.ErrTime} {
		if l, e := n.Settle(date); l != nil || e != want {
			t.Error(date, e)
		}
	}
	sound(t, n, 20500)
}
