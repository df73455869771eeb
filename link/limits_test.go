package link

import (
	"testing"

	"cardnet/api"
)

func TestP18_1P18_4Limits(t *testing.T) {
	one := api.Fault{Kind: api.FLose, B: 1}
	for i, c := range []struct {
		parties, latency, faults int
		want                     api.Errno
	}{{1, 1, 0, api.OK}, {16, 1000, 32, api.OK}, {2, 1, 33, api.ErrLong}, {1, 1, 1, api.ErrRange}} {
		var l []api.Fault
		for range c.faults {
			l = append(l, one)
		}
		if _, e := New(c.parties, c.latency, l); e != c.want {
			t.Error(i, e)
		}
	}
	l := of(t)
	l.Send(1, 0, 1, "a")
	l.Send(1, 0, 2, "b")
	l.Send(2, 0, 1, "c")
	if l.Drop(1) != 2 {
		t.Error("Drop")
	}
	if a := l.Receive(6); len(a) != 1 || a[0].Text != "b" {
		t.Error(a)
	}
	if _, ok := l.Next(); ok || l.Receive(99) != nil {
		t.Error("nothing is under way")
	}
}
