package exchange

import (
	"slices"
	"strconv"
	"strings"
	"testing"

	"cardnet/api"
)

func of(t *testing.T) *Exchange {
	t.Helper()
	x, e := New(30)
	if e != api.OK {
		t.Fatal(e)
	}
	return x
}

func reply(t *testing.T, x *Exchange, at int, key, text string, want int, we api.Errno) {
	t.Helper()
	if n, e := x.Reply(at, key, text); n != want || e != we {
		t.Error(at, key, n, e)
	}
}

func TestP19_1P19_2Begin(t *testing.T) {
	for _, n := range []int{0, 100001, -1} {
		if x, e := New(n); x != nil || e != api.ErrRange {
			t.Error(n, e)
		}
	}
	x := of(t)
	long := strings.Repeat("a", api.MaxText+1)
	for i, e := range []api.Errno{x.Begin(-1, "", long), x.Begin(api.MaxTime+1, "", long), x.Begin(0, "", long), x.Begin(0, strings.Repeat("k", 41), long), x.Begin(0, "a", long), x.Begin(5, "a", ""), x.Begin(5, "a", "x"), x.Begin(4, "b", "x"), x.Begin(5, strings.Repeat("k", 40), long[1:])} {
		if e != []api.Errno{api.ErrTime, api.ErrTime, api.ErrName, api.ErrName, api.ErrLong, api.OK, api.ErrExists, api.ErrTime, api.OK}[i] {
			t.Error(i, e)
		}
	}
	for i := range api.MaxPending - 2 {
		if e := x.Begin(5, "n"+strconv.Itoa(i), ""); e != api.OK {
			t.Error(i, e)
		}
	}
	if x.Begin(6, "more", "") != api.ErrFull || x.Begin(5, "a", "") != api.ErrExists {
		t.Error("full")
	}
	reply(t, x, 5, "a", "", 1, api.OK)
	if x.Begin(5, "more", "") != api.OK || x.Begin(5, "a", "") != api.ErrExists {
		t.Error("after an answer")
	}
}

func TestP19_3P19_5P19_10Reply(t *testing.T) {
	x := of(t)
	x.Begin(10, "a", "buy")
	x.Begin(10, "b", "buy")
	if s, e := x.Result("a"); s != "" || e != api.ErrState {
		t.Error(s, e)
	}
	reply(t, x, 9, "x", "", 0, api.ErrNone)
	reply(t, x, 9, "a", strings.Repeat("a", 4001), 0, api.ErrTime)
	reply(t, x, 39, "a", strings.Repeat("a", 4001), 0, api.ErrLong)
	reply(t, x, 39, "a", "yes", 1, api.OK)
	reply(t, x, 38, "a", "yes", 0, api.ErrTime)
	reply(t, x, 50, "a", "no", 3, api.OK)
	reply(t, x, 50, "b", "yes", 2, api.OK)
	reply(t, x, 50, "b", "yes", 2, api.OK)
	if s, e := x.Result("a"); s != "yes" || e != api.OK {
		t.Error(s, e)
	}
	if s, e := x.Result("b"); s != "" || e != api.ErrTime {
		t.Error(s, e)
	}
	if s, e := x.Result("c"); s != "" || e != api.ErrNone {
		t.Error(s, e)
	}
}

func TestP19_4P19_9Lost(t *testing.T) {
	x := of(t)
	x.Begin(10, "b", "buy")
	x.Begin(10, "a", "buy")
	x.Begin(12, "c", "buy")
	reply(t, x, 40, "a", "late", 2, api.OK)
	if l := x.Lost(39); l != nil {
		t.Error(l)
	}
	if l := x.Lost(api.MaxTime + 1); l != nil {
		t.Error(l)
	}
	if l := x.Lost(41); !slices.Equal(l, []string{"b", "a"}) {
		t.Error(l)
	}
	if l := x.Lost(41); l != nil {
		t.Error(l)
	}
	reply(t, x, 41, "a", "late", 2, api.OK)
	if x.Begin(40, "d", "") != api.ErrTime {
		t.Error("the present time is that of Lost")
	}
	if l := x.Lost(42); !slices.Equal(l, []string{"c"}) {
		t.Error(l)
	}
	late := of(t)
	if late.Begin(api.MaxTime, "z", "") != api.OK || late.Lost(api.MaxTime) != nil {
		t.Error("a deadline after MaxTime")
	}
	reply(t, late, api.MaxTime, "z", "y", 1, api.OK)
}

func TestP19_6P19_7P19_8Queries(t *testing.T) {
	x := of(t)
	if at, ok := x.Next(); at != 0 || ok || x.Waiting() != nil {
		t.Error(at, ok)
	}
	x.Begin(10, "b", "buy b")
	x.Begin(11, "a", "buy a")
	x.Begin(12, "c", "buy c")
	reply(t, x, 13, "a", "yes", 1, api.OK)
	if l := x.Waiting(); !slices.Equal(l, []string{"b", "c"}) {
		t.Error(l)
	}
	reply(t, x, 41, "b", "late", 2, api.OK)
	if l := x.Waiting(); !slices.Equal(l, []string{"c"}) {
		t.Error(l)
	}
	if at, ok := x.Next(); at != 40 || !ok {
		t.Error(at, ok)
	}
	x.Lost(41)
	if at, ok := x.Next(); at != 42 || !ok {
		t.Error(at, ok)
	}
	x.Lost(42)
	if at, ok := x.Next(); at != 0 || ok {
		t.Error(at, ok)
	}
	for key, want := range map[string]string{"a": "buy a", "b": "buy b", "c": "buy c"} {
		if s, ok := x.Request(key); s != want || !ok {
			t.Error(key, s)
		}
	}
	if s, ok := x.Request("d"); s != "" || ok {
		t.Error(s)
	}
	for _, none := range []*Exchange{nil, {}} {
		_, e := none.Result("a")
		_, ok := none.Next()
		if none.Begin(0, "a", "") != api.ErrNone || e != api.ErrNone || ok || none.Lost(0) != nil || none.Waiting() != nil {
			t.Error("missing exchange")
		}
		reply(t, none, 0, "a", "", 0, api.ErrNone)
	}
}
