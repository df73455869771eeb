package account

import (
	"slices"
	"strconv"
	"testing"

	"cardnet/api"
)

func of(t *testing.T, balance, limit int64) *Account {
	t.Helper()
	a, e := New("EUR", balance, limit)
	if e != api.OK {
		t.Fatal(e)
	}
	return a
}

func want(t *testing.T, a *Account, balance, held, available int64) {
	t.Helper()
	if a.Balance() != balance || a.Held() != held || a.Available() != available {
		t.Error(a.Balance(), a.Held(), a.Available())
	}
}

func TestP13_1New(t *testing.T) {
	for i, c := range []struct {
		currency       string
		balance, limit int64
		e              api.Errno
	}{{"EUR", 0, 0, api.OK}, {"EUR", -api.MaxAmount, api.MaxAmount, api.OK}, {"eur", 1 << 60, 0, api.ErrCurrency}, {"EUR", api.MaxAmount + 1, 0, api.ErrRange}, {"EUR", -api.MaxAmount - 1, 0, api.ErrRange}, {"EUR", 0, -1, api.ErrRange}, {"EUR", 0, api.MaxAmount + 1, api.ErrRange}} {
		if a, e := New(c.currency, c.balance, c.limit); e != c.e || (a == nil) != (e != api.OK) {
			t.Error(i, e)
		}
	}
}

func TestP13_2P13_3P13_12Hold(t *testing.T) {
	a := of(t, 1000, 500)
	if a.Hold("a", 1200) != api.OK {
		t.Error("Hold")
	}
	want(t, a, 1000, 1200, 300)
	for i, c := range []struct {
		id            string
		amount, least int64
		e             api.Errno
	}{
		{"", 0, 1, api.ErrRange}, {"", api.MaxAmount + 1, 1, api.ErrRange}, {"", 400, 0, api.ErrRange}, {"", 400, 401, api.ErrRange}, {"", 400, 400, api.ErrName}, {"a b", 400, 1, api.ErrName}, {"abcdefghijklmnopq", 1, 1, api.ErrName}, {"a", 400, 400, api.ErrExists}, {"b", 400, 301, api.ErrFunds},
	} {
		if n, e := a.HoldUpTo(c.id, c.amount, c.least); n != 0 || e != c.e {
			t.Error(i, n, e)
		}
		if c.least == c.amount || c.amount < 1 {
			if e := a.Hold(c.id, c.amount); e != c.e {
				t.Error(i, e)
			}
		}
	}
	if a.Hold("b", 400) != api.ErrFunds {
		t.Error("Hold above what is available")
	}
	if n, e := a.HoldUpTo("b", 400, 100); n != 300 || e != api.OK {
		t.Error(n, e)
	}
	want(t, a, 1000, 1500, 0)
	b := of(t, api.MaxAmount, 0)
	for i := range api.MaxHolds {
		if e := b.Hold("h-"+strconv.Itoa(i), 1); e != api.OK {
			t.Error(i, e)
		}
	}
	if b.Hold("more", 1) != api.ErrFull || b.Hold("h-1", 1) != api.ErrExists || b.Force("more", 1) != api.ErrFull || b.Force("h-1", api.MaxAmount) != api.ErrRange || b.Force("h-1", 5) != api.OK {
		t.Error("full account")
	}
	if n, e := b.HoldUpTo("more", 1, 1); n != 0 || e != api.ErrFull {
		t.Error(n, e)
	}
}

func TestP13_4P13_5P13_6Changes(t *testing.T) {
	a := of(t, 100, 0)
	for i, e := range []api.Errno{a.Force("", 0), a.Force("", 1), a.Force("f", 500), a.Force("f", api.MaxAmount), a.Force("f", 1), a.Raise("f", 0), a.Raise("x", 1), a.Raise("f", api.MaxAmount), a.Raise("f", 1)} {
		if e != []api.Errno{api.ErrRange, api.ErrName, api.OK, api.ErrRange, api.OK, api.ErrRange, api.ErrNone, api.ErrRange, api.ErrFunds}[i] {
			t.Error(i, e)
		}
	}
	want(t, a, 100, 501, -401)
	for i, e := range []api.Errno{a.Release("x", 0), a.Release("f", 0), a.Release("f", 502), a.Release("f", 450), a.Raise("f", 49), a.Raise("f", 1), a.Release("f", 100), a.Release("f", 1)} {
		if e != []api.Errno{api.ErrNone, api.ErrRange, api.ErrRange, api.OK, api.OK, api.ErrFunds, api.OK, api.ErrNone}[i] {
			t.Error(i, e)
		}
	}
	want(t, a, 100, 0, 100)
}

func TestP13_7P13_8P13_11Balance(t *testing.T) {
	a := of(t, 1000, 500)
	a.Hold("a", 1200)
	a.HoldUpTo("b", 400, 100)
	for i, e := range []api.Errno{a.Capture("x", 0, 0), a.Capture("a", -1, 0), a.Capture("a", 1201, 0), a.Capture("a", 0, -1), a.Capture("a", 0, api.MaxAmount+1), a.Capture("a", 0, 0), a.Capture("a", 1200, 1250), a.Capture("a", 0, 0)} {
		if e != []api.Errno{api.ErrNone, api.ErrRange, api.ErrRange, api.ErrRange, api.ErrRange, api.OK, api.OK, api.ErrNone}[i] {
			t.Error(i, e)
		}
	}
	want(t, a, -250, 300, -50)
	a.Force("b", 700)
	want(t, a, -250, 1000, -750)
	a.Release("b", 1000)
	want(t, a, -250, 0, 250)
	if a.Post(api.MaxAmount+1) != api.ErrRange || a.Post(-api.MaxAmount-1) != api.ErrRange || a.Post(-50) != api.OK || a.Post(300) != api.OK {
		t.Error("Post")
	}
	want(t, a, 0, 0, 500)
	up, down := of(t, 0, 0), of(t, 0, 0)
	down.Force("f", 1)
	for range api.MaxTotal / api.MaxAmount {
		if up.Post(api.MaxAmount) != api.OK || down.Capture("f", 0, api.MaxAmount) != api.OK {
			t.Fatal("Post")
		}
	}
	if up.Post(api.MaxAmount) != api.ErrRange || down.Post(-api.MaxAmount) != api.ErrRange || down.Capture("f", 0, api.MaxAmount) != api.ErrRange {
		t.Error("balance beyond MaxTotal")
	}
}

func TestP13_9P13_10P13_13Queries(t *testing.T) {
	a, b := of(t, 100, 0), of(t, 100, 0)
	for _, id := range []string{"b", "-", "a", "_a", "A"} {
		a.Hold(id, 3)
	}
	for _, id := range []string{"A", "_a", "a", "-", "b"} {
		b.Hold(id, 3)
	}
	if l := a.Holds(); !slices.Equal(l, []string{"-", "A", "_a", "a", "b"}) || !slices.Equal(l, b.Holds()) {
		t.Error(l)
	}
	if n, ok := a.Open("_a"); n != 3 || !ok {
		t.Error(n, ok)
	}
	if n, ok := a.Open("x"); n != 0 || ok {
		t.Error(n, ok)
	}
	for _, none := range []*Account{nil, {}} {
		n, e := none.HoldUpTo("a", 1, 1)
		if n != 0 || e != api.ErrNone || none.Hold("a", 1) != api.ErrNone || none.Force("a", 1) != api.ErrNone || none.Raise("a", 1) != api.ErrNone || none.Release("a", 1) != api.ErrNone || none.Capture("a", 0, 0) != api.ErrNone || none.Post(1) != api.ErrNone || none.Available() != 0 || none.Held() != 0 || none.Balance() != 0 || none.Holds() != nil {
			t.Error("missing account")
		}
	}
}
