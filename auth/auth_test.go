package auth

import (
	"testing"

	"cardnet/api"
)

func of(t *testing.T) api.Auth {
	t.Helper()
	a, e := New("a", "EUR", 1000, 50, 90)
	if e != api.OK {
		t.Fatal(e)
	}
	return a
}

func with(f func(a *api.Auth)) api.Auth {
	a := api.Auth{Id: "a", Currency: "EUR", Approved: 1000, State: api.AuthOpen, At: 50, Until: 90}
	f(&a)
	return a
}

func TestP27_1P27_2P27_3Check(t *testing.T) {
	if a := of(t); a != with(func(*api.Auth) {}) || Open(a) != 1000 {
		t.Error(a)
	}
	for i, c := range []struct {
		a    api.Auth
		want api.Errno
	}{
		{with(func(a *api.Auth) { a.Id, a.Currency = "", "" }), api.ErrName}, {with(func(a *api.Auth) { a.Id = "a/b" }), api.ErrName}, {with(func(a *api.Auth) { a.Currency, a.Approved = "eur", 0 }), api.ErrCurrency}, {with(func(a *api.Auth) { a.Approved = 0 }), api.ErrRange}, {with(func(a *api.Auth) { a.Approved = api.MaxAmount + 1 }), api.ErrRange},
		{with(func(a *api.Auth) { a.Reversed = -1 }), api.ErrRange}, {with(func(a *api.Auth) { a.Cleared = api.MaxAmount + 1 }), api.ErrRange}, {with(func(a *api.Auth) { a.Expired = -1 << 63 }), api.ErrRange}, {with(func(a *api.Auth) { a.Reversed, a.Cleared, a.Expired, a.At = 500, 400, 101, -1 }), api.ErrBalance},
		{with(func(a *api.Auth) { a.At, a.Parts = -1, -1 }), api.ErrTime}, {with(func(a *api.Auth) { a.Until = 50 }), api.ErrTime}, {with(func(a *api.Auth) { a.Until = api.MaxTime + 1 }), api.ErrTime}, {with(func(a *api.Auth) { a.At, a.Until = api.MaxTime+1, api.MaxTime+2 }), api.ErrTime}, {with(func(a *api.Auth) { a.At = 1<<63 - 1 }), api.ErrTime},
		{with(func(a *api.Auth) { a.Parts, a.State = 1, 0 }), api.ErrRange}, {with(func(a *api.Auth) { a.Cleared = 5 }), api.ErrRange}, {with(func(a *api.Auth) { a.Cleared, a.Parts = 5, 6 }), api.ErrRange}, {with(func(a *api.Auth) { a.Cleared, a.Parts = 500, 9 }), api.ErrRange}, {with(func(a *api.Auth) { a.Parts = -1 }), api.ErrRange}, {with(func(a *api.Auth) { a.Cleared, a.Parts = 5, 5 }), api.OK},
		{with(func(a *api.Auth) { a.State = api.AuthCleared }), api.ErrState}, {with(func(a *api.Auth) { a.State = 0 }), api.ErrState}, {with(func(a *api.Auth) { a.Expired = 5 }), api.ErrState}, {with(func(a *api.Auth) { a.Expired, a.Reversed, a.State = 5, 995, api.AuthExpired }), api.OK}, {with(func(a *api.Auth) { a.Reversed, a.State = 1000, api.AuthReversed }), api.OK}, {with(func(a *api.Auth) { a.Reversed, a.Cleared, a.Parts, a.State = 999, 1, 1, api.AuthReversed }), api.ErrState},
	} {
		if e := Check(c.a); e != c.want {
			t.Error(i, e)
		}
		if c.want == api.OK {
			continue
		}
		_, e1 := Raise(c.a, 0, 0)
		_, _, e2 := Reverse(c.a, -1)
		_, _, _, e3 := Clear(c.a, 0, true)
		_, _, e4 := Expire(c.a, 0)
		if Open(c.a) != 0 || e1 != c.want || e2 != c.want || e3 != c.want || e4 != c.want || Encode(c.a) != "" {
			t.Error(i)
		}
	}
	if a, e := New("a", "EUR", 0, -1, 0); a != (api.Auth{}) || e != api.ErrRange {
		t.Error(a, e)
	}
}

func TestP27_4Raise(t *testing.T) {
	a := of(t)
	if b, e := Raise(a, 500, 95); b != with(func(a *api.Auth) { a.Approved, a.Until = 1500, 95 }) || e != api.OK {
		t.Error(b, e)
	}
	for i, c := range []struct {
		amount int64
		until  int
		want   api.Errno
	}{{0, 0, api.ErrRange}, {-5, 90, api.ErrRange}, {api.MaxAmount - 999, 90, api.ErrRange}, {1<<63 - 1, 90, api.ErrRange}, {1, 89, api.ErrTime}, {1, api.MaxTime + 1, api.ErrTime}, {api.MaxAmount - 1000, 90, api.OK}} {
		if _, e := Raise(a, c.amount, c.until); e != c.want {
			t.Error(i, e)
		}
	}
}

func TestP27_5P27_7P27_12Ends(t *testing.T) {
	a := of(t)
	b, n, e := Reverse(a, 300)
	if b != with(func(a *api.Auth) { a.Reversed = 300 }) || n != 300 || e != api.OK {
		t.Error(b, n, e)
	}
	if _, _, e := Reverse(b, 701); e != api.ErrRange {
		t.Error(e)
	}
	if _, _, e := Reverse(b, -1); e != api.ErrRange {
		t.Error(e)
	}
	c, n, e := Reverse(b, 0)
	if c.State != api.AuthReversed || n != 700 || e != api.OK {
		t.Error(c, n, e)
	}
	if x, n, e := Expire(a, 89); x != (api.Auth{}) || n != 0 || e != api.ErrTime {
		t.Error(x, n, e)
	}
	d, n, e := Expire(b, 90)
	if d.State != api.AuthExpired || d.Expired != 700 || n != 700 || e != api.OK {
		t.Error(d, n, e)
	}
	f, _, _, _ := Clear(a, 1000, false)
	for _, x := range []api.Auth{c, d, f} {
		_, e1 := Raise(x, 0, 0)
		_, _, e2 := Reverse(x, -1)
		_, _, _, e3 := Clear(x, 0, true)
		_, _, e4 := Expire(x, 0)
		if e1 != api.ErrState || e2 != api.ErrState || e3 != api.ErrState || e4 != api.ErrState || Open(x) != 0 {
			t.Error(x)
		}
	}
}

func TestP27_6P27_11P27_13Clear(t *testing.T) {
	a := of(t)
	b, used, released, e := Clear(a, 400, false)
	if used != 400 || released != 0 || Open(b) != 600 || b.Parts != 1 || e != api.OK {
		t.Error(b, used, released, e)
	}
	c, used, released, e := Clear(b, 700, true)
	if used != 600 || released != 0 || c.State != api.AuthCleared || e != api.OK {
		t.Error(c, used, released, e)
	}
	d, used, released, e := Clear(a, 300, true)
	if used != 300 || released != 700 || d.State != api.AuthCleared || d.Reversed != 700 || e != api.OK {
		t.Error(d, used, released, e)
	}
	x, _, _ := Expire(b, 90)
	if x.State != api.AuthExpired || x.Expired != 600 {
		t.Error(x)
	}
	for i, amount := range []int64{0, -1, api.MaxAmount + 1} {
		if y, used, released, e := Clear(a, amount, true); y != (api.Auth{}) || used != 0 || released != 0 || e != api.ErrRange {
			t.Error(i, e)
		}
	}
	sum := int64(0)
	for i := range api.MaxParts {
		a, used, _, e = Clear(a, int64(10+i), false)
		sum += used
		if e != api.OK || Check(a) != api.OK || Open(a) != 1000-sum {
			t.Error(i, a, e)
		}
	}
	if _, _, _, e := Clear(a, 1, true); e != api.ErrLimit || sum != 108 {
		t.Error(e, sum)
	}
	if _, _, _, e := Clear(a, 0, true); e != api.ErrRange {
		t.Error(e)
	}
}

func TestP27_8P27_9P27_10P27_14Text(t *testing.T) {
	for state, want := range map[int]string{1: "open", 2: "cleared", 3: "reversed", 4: "expired", 0: "", 5: "", -1: ""} {
		if Name(state) != want {
			t.Error(state)
		}
	}
	s := "000001000007/EUR/1000/0/400/0/50/90/1"
	a, e := Decode(s)
	if a != (api.Auth{Id: "000001000007", Currency: "EUR", Approved: 1000, Cleared: 400, State: api.AuthOpen, At: 50, Until: 90, Parts: 1}) || e != api.OK || Encode(a) != s {
		t.Error(a, e)
	}
	for _, final := range []bool{true, false} {
		b, _, _, _ := Clear(a, 100, final)
		c, _, _ := Expire(a, 90)
		for _, x := range []api.Auth{b, c} {
			if y, e := Decode(Encode(x)); y != x || e != api.OK {
				t.Error(x, y, e)
			}
		}
	}
	for s, want := range map[string]api.Errno{
		"": api.ErrFormat, "a/EUR/1000/0/400/0/50/90": api.ErrFormat, "a/EUR/1000/0/400/0/50/90/1/": api.ErrFormat, "a/EUR/01000/0/400/0/50/90/1": api.ErrFormat, "a/EUR/1000/-0/400/0/50/90/1": api.ErrFormat, "a/EUR/1000//400/0/50/90/1": api.ErrFormat, "/EUR/1000/0/400/0/50/90/x": api.ErrFormat, "a/EUR/9223372036854775808/0/400/0/50/90/1": api.ErrFormat,
		"/EUR/1000/0/400/0/50/90/1": api.ErrName, "a/E/1000/0/400/0/50/90/1": api.ErrCurrency, "a/EUR/1000/-1/400/0/50/90/1": api.ErrRange, "a/EUR/1000/601/400/0/50/90/1": api.ErrBalance, "a/EUR/1000/0/400/0/50/50/1": api.ErrTime, "a/EUR/1000/0/400/0/50/90/0": api.ErrRange, "a/EUR/1000/0/400/1/50/90/1": api.ErrState,
	} {
		if a, e := Decode(s); a != (api.Auth{}) || e != want {
			t.Error(s, a, e)
		}
	}
}
