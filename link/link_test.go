package link

import (
	"slices"
	"strings"
	"testing"

	"cardnet/api"
)

func of(t *testing.T, faults ...api.Fault) *Link {
	t.Helper()
	l, e := New(3, 5, faults)
	if e != api.OK {
		t.Fatal(e)
	}
	return l
}

func TestP18_1Check(t *testing.T) {
	for i, c := range []struct {
		parties int
		f       api.Fault
		want    api.Errno
	}{
		{2, api.Fault{Kind: api.FLose, B: 1}, api.OK}, {16, api.Fault{Kind: api.FDelay, A: 15, Until: api.MaxTime, Extra: 100000}, api.OK}, {0, api.Fault{Kind: api.FLose, B: 1}, api.ErrRange}, {17, api.Fault{Kind: api.FLose, B: 1}, api.ErrRange}, {2, api.Fault{B: 1}, api.ErrRange}, {2, api.Fault{Kind: 5, B: 1}, api.ErrRange},
		{2, api.Fault{Kind: 1, B: 2}, api.ErrRange}, {2, api.Fault{Kind: 1, A: -1}, api.ErrRange}, {2, api.Fault{Kind: 1}, api.ErrRange}, {2, api.Fault{Kind: api.FLose, B: 1, Extra: 1}, api.ErrRange}, {2, api.Fault{Kind: api.FCut, B: 1, Extra: 1}, api.ErrRange}, {2, api.Fault{Kind: api.FRepeat, B: 1, Extra: 100001, From: -1}, api.ErrRange},
		{2, api.Fault{Kind: api.FDelay, B: 1, Extra: -1}, api.ErrRange}, {2, api.Fault{Kind: 1, B: 1, From: -1}, api.ErrTime}, {2, api.Fault{Kind: 1, B: 1, From: 5, Until: 4}, api.ErrTime}, {2, api.Fault{Kind: 1, B: 1, Until: api.MaxTime + 1}, api.ErrTime},
	} {
		if e := Check(c.parties, c.f); e != c.want {
			t.Error(i, e)
		}
	}
	bad := api.Fault{Kind: 1, B: 1, From: -1}
	for i, c := range []struct {
		parties, latency int
		faults           []api.Fault
		want             api.Errno
	}{{0, 5, nil, api.ErrRange}, {17, 5, nil, api.ErrRange}, {2, 0, nil, api.ErrRange}, {2, 1001, nil, api.ErrRange}, {2, 5, make([]api.Fault, 33), api.ErrLong}, {2, 5, []api.Fault{{Kind: 1, B: 1}, bad, {}}, api.ErrTime}, {1, 1000, nil, api.OK}} {
		if l, e := New(c.parties, c.latency, c.faults); e != c.want || (l == nil) != (e != api.OK) {
			t.Error(i, e)
		}
	}
}

func TestP18_2P18_3P18_6Send(t *testing.T) {
	l := of(t)
	for i, c := range []struct {
		at, from, to, length, n int
		e                       api.Errno
	}{{10, 0, 1, 1, 1, api.OK}, {10, 1, 1, 9999, 0, api.ErrRange}, {10, 0, 3, 1, 0, api.ErrRange}, {10, -1, 0, 1, 0, api.ErrRange}, {9, 0, 1, 4001, 0, api.ErrLong}, {9, 0, 1, 4000, 0, api.ErrTime}, {api.MaxTime + 1, 0, 1, 1, 0, api.ErrTime}, {11, 1, 0, 4000, 2, api.OK}} {
		if n, e := l.Send(c.at, c.from, c.to, strings.Repeat("a", c.length)); n != c.n || e != c.e {
			t.Error(i, n, e)
		}
	}
	if at, ok := l.Next(); at != 15 || !ok {
		t.Error(at, ok)
	}
	if a := l.Receive(14); a != nil {
		t.Error(a)
	}
	if a := l.Receive(15); !slices.Equal(a, []Arrival{{At: 15, From: 0, To: 1, Number: 1, Text: "a"}}) {
		t.Error(a)
	}
	l.Receive(3)
	if _, e := l.Send(14, 0, 1, "x"); e != api.ErrTime {
		t.Error(e)
	}
	if n, e := l.Send(15, 0, 1, "x"); n != 3 || e != api.OK {
		t.Error(n, e)
	}
	if a := l.Receive(1 << 62); len(a) != 2 || a[0].Number != 2 || a[1].Number != 3 || l.Sent() != 3 {
		t.Error(a)
	}
	if n, e := l.Send(api.MaxTime, 0, 1, "x"); n != 4 || e != api.OK {
		t.Error(n, e)
	}
	full := of(t, api.Fault{Kind: api.FRepeat, A: 0, B: 1, Until: 9}, api.Fault{Kind: api.FLose, A: 1, B: 0, Until: 9})
	for range api.MaxPending/2 - 1 {
		full.Send(1, 0, 1, "")
	}
	full.Send(1, 0, 2, "")
	if n, e := full.Send(1, 0, 1, ""); n != 0 || e != api.ErrFull {
		t.Error(n, e)
	}
	if n, e := full.Send(1, 0, 2, ""); n != 129 || e != api.OK {
		t.Error(n, e)
	}
	if n, e := full.Send(1, 1, 0, "lost"); n != 130 || e != api.OK {
		t.Error(n, e)
	}
	if n, e := full.Send(1, 2, 0, ""); n != 0 || e != api.ErrFull {
		t.Error(n, e)
	}
}

func arrivals(a []Arrival) string {
	s := ""
	for _, x := range a {
		s += x.Text + string(rune('0'+x.At-100)) + " "
	}
	return s
}

func TestP18_2P18_7Faults(t *testing.T) {
	l := of(t, api.Fault{Kind: api.FRepeat, A: 0, B: 1, From: 100, Until: 101, Extra: 2}, api.Fault{Kind: api.FRepeat, A: 0, B: 1, From: 100, Until: 101}, api.Fault{Kind: api.FDelay, A: 0, B: 1, From: 100, Until: 101, Extra: 1}, api.Fault{Kind: api.FDelay, A: 0, B: 1, From: 100, Until: 101, Extra: 1},
		api.Fault{Kind: api.FLose, A: 1, B: 0, From: 100, Until: 101}, api.Fault{Kind: api.FCut, A: 1, B: 2, From: 100, Until: 101})
	l.Send(99, 0, 1, "a")
	l.Send(100, 0, 1, "b")
	l.Send(100, 1, 0, "lost")
	l.Send(100, 1, 2, "lost")
	l.Send(100, 2, 1, "lost")
	l.Send(100, 0, 2, "c")
	l.Send(101, 0, 1, "d")
	l.Send(101, 1, 0, "e")
	l.Send(101, 2, 1, "f")
	l.Send(102, 2, 1, "g")
	if got := arrivals(l.Receive(200)); got != "a4 c5 d6 e6 f6 b7 b7 g7 b9 " || l.Sent() != 10 {
		t.Error(got, l.Sent())
	}
	if !l.Cut(100, 2, 1) || !l.Cut(100, 1, 2) || l.Cut(101, 1, 2) || l.Cut(99, 1, 2) || l.Cut(100, 0, 1) || l.Cut(100, 1, 0) {
		t.Error("Cut")
	}
}

func TestP18_4P18_5Drop(t *testing.T) {
	l := of(t)
	l.Send(1, 0, 1, "a")
	l.Send(1, 0, 2, "b")
	l.Send(2, 2, 1, "c")
	if n := l.Drop(1); n != 2 || l.Drop(1) != 0 {
		t.Error(n)
	}
	if at, ok := l.Next(); at != 6 || !ok {
		t.Error(at, ok)
	}
	if a := l.Receive(9); len(a) != 1 || a[0].Text != "b" {
		t.Error(a)
	}
	if at, ok := l.Next(); at != 0 || ok {
		t.Error(at, ok)
	}
	for _, none := range []*Link{nil, {}} {
		n, e := none.Send(1, 0, 1, "")
		_, ok := none.Next()
		if n != 0 || e == api.OK || ok || none.Receive(1) != nil || none.Drop(0) != 0 || none.Cut(0, 0, 1) || none.Sent() != 0 {
			t.Error("missing link")
		}
	}
	if _, e := (*Link)(nil).Send(1, 0, 1, ""); e != api.ErrNone {
		t.Error(e)
	}
}
