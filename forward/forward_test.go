package forward

import (
	"slices"
	"strconv"
	"strings"
	"testing"

	"cardnet/api"
)

func of(t *testing.T) *Queue {
	t.Helper()
	q, e := New(10)
	if e != api.OK {
		t.Fatal(e)
	}
	return q
}

func polls(t *testing.T, q *Queue, at int, want string) {
	t.Helper()
	s := ""
	for _, x := range q.Poll(at) {
		s += x.Key + x.Text + strconv.Itoa(x.Try) + " "
	}
	if s != want {
		t.Error(at, s, want)
	}
}

func TestP20_1P20_2Put(t *testing.T) {
	for _, n := range []int{0, 100001, -1} {
		if q, e := New(n); q != nil || e != api.ErrRange {
			t.Error(n, e)
		}
	}
	q := of(t)
	long := strings.Repeat("a", api.MaxText+1)
	for i, e := range []api.Errno{q.Put(-1, "", long), q.Put(-1, strings.Repeat("k", 41), ""), q.Put(-1, "a", long), q.Put(-1, "a", ""), q.Put(api.MaxTime+1, "a", ""), q.Put(5, "a", long[1:]), q.Put(6, "a", ""), q.Put(-1, "a", ""), q.Put(3, strings.Repeat("k", 40), "")} {
		if e != []api.Errno{api.ErrName, api.ErrName, api.ErrLong, api.ErrTime, api.ErrTime, api.OK, api.ErrExists, api.ErrTime, api.OK}[i] {
			t.Error(i, e)
		}
	}
	for i := range api.MaxPending - 2 {
		if e := q.Put(5, "n"+strconv.Itoa(i), ""); e != api.OK {
			t.Error(i, e)
		}
	}
	if q.Put(5, "more", "") != api.ErrFull || q.Put(5, "a", "") != api.ErrExists || q.Ack("n5") != api.OK || q.Put(5, "n5", "") != api.ErrExists || q.Put(5, "more", "") != api.OK {
		t.Error("full")
	}
}

func TestP20_3P20_4P20_6P20_7Poll(t *testing.T) {
	q := of(t)
	q.Put(0, "k", "!")
	q.Put(5, "j", "?")
	polls(t, q, -1, "")
	polls(t, q, api.MaxTime+1, "")
	polls(t, q, 0, "k!1 ")
	polls(t, q, 9, "j?1 ")
	polls(t, q, 10, "k!2 ")
	polls(t, q, 5, "")
	polls(t, q, 20, "k!3 j?2 ")
	if q.Hold("x", -1) != api.ErrNone || q.Hold("k", -1) != api.ErrTime || q.Hold("k", api.MaxTime+1) != api.ErrTime || q.Hold("k", 5) != api.OK {
		t.Error("Hold")
	}
	if at, ok := q.Next(); at != 30 || !ok {
		t.Error(at, ok)
	}
	if q.Hold("k", 50) != api.OK || q.Hold("j", 60) != api.OK {
		t.Error("Hold")
	}
	if at, ok := q.Next(); at != 50 || !ok {
		t.Error(at, ok)
	}
	polls(t, q, 49, "")
	polls(t, q, 50, "k!4 ")
	if q.Ack("k") != api.OK || q.Ack("k") != api.ErrNone || q.Hold("k", 99) != api.ErrNone || q.Put(60, "k", "") != api.ErrExists {
		t.Error("Ack")
	}
	polls(t, q, 100, "j?3 ")
}

func TestP20_5Queries(t *testing.T) {
	q := of(t)
	if at, ok := q.Next(); at != 0 || ok {
		t.Error(at, ok)
	}
	q.Put(9, "b", "")
	q.Put(5, "a", "")
	q.Put(7, "c", "")
	q.Ack("a")
	if l := q.Waiting(); !slices.Equal(l, []string{"b", "c"}) || !q.Known("a") || !q.Known("b") || q.Known("d") {
		t.Error(l)
	}
	if at, ok := q.Next(); at != 7 || !ok {
		t.Error(at, ok)
	}
	for _, none := range []*Queue{nil, {}} {
		_, ok := none.Next()
		if none.Put(0, "a", "") != api.ErrNone || none.Poll(0) != nil || none.Ack("a") != api.ErrNone || none.Hold("a", 1) != api.ErrNone || none.Waiting() != nil || ok || none.Known("a") {
			t.Error("missing queue")
		}
	}
}
