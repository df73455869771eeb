package auth

import (
	"testing"

	"cardnet/api"
)

func TestP27_2P27_4P27_5P27_6Limits(t *testing.T) {
	for i, c := range []struct {
		amount    int64
		at, until int
		want      api.Errno
	}{{1, 0, 1, api.OK}, {api.MaxAmount, 0, api.MaxTime, api.OK}, {1, api.MaxTime - 1, api.MaxTime, api.OK}, {1, api.MaxTime, api.MaxTime + 1, api.ErrTime}, {1, 0, 0, api.ErrTime}} {
		a, e := New("a", "EUR", c.amount, c.at, c.until)
		if e != c.want {
			t.Error(i, e)
		}
		if e != api.OK {
			continue
		}
		cleared, used, released, e := Clear(a, api.MaxAmount, false)
		if used != c.amount || released != 0 || cleared.State != api.AuthCleared || e != api.OK {
			t.Error(i, cleared, e)
		}
		reversed, n, e := Reverse(a, c.amount)
		if n != c.amount || reversed.State != api.AuthReversed || e != api.OK {
			t.Error(i, reversed, e)
		}
		expired, n, e := Expire(a, c.until)
		if n != c.amount || expired.State != api.AuthExpired || e != api.OK {
			t.Error(i, expired, e)
		}
	}
	most, _ := New("a", "EUR", api.MaxAmount, 0, 5)
	if a, n, e := Reverse(most, 0); a.Reversed != api.MaxAmount || n != api.MaxAmount || e != api.OK || Check(a) != api.OK {
		t.Error(a, n, e)
	}
	one, _ := New("a", "EUR", 2, 0, 5)
	if a, e := Raise(one, 1, api.MaxTime); a.Approved != 3 || e != api.OK {
		t.Error(a, e)
	}
	part, _, _, _ := Clear(one, 1, false)
	if part.State != api.AuthOpen || Open(part) != 1 {
		t.Error(part)
	}
	if x, n, e := Reverse(part, 1); x.State != api.AuthCleared || n != 1 || e != api.OK {
		t.Error(x, n, e)
	}
	if x, n, e := Expire(part, 5); x.State != api.AuthExpired || x.Expired != 1 || n != 1 || e != api.OK {
		t.Error(x, n, e)
	}
	zero := func(a api.Auth, used, released int64, e, want api.Errno) {
		t.Helper()
		if a != (api.Auth{}) || used != 0 || released != 0 || e != want {
			t.Error(a, used, released, e)
		}
	}
	ended, _, _ := Reverse(one, 0)
	a, n, e := Reverse(ended, 0)
	zero(a, n, 0, e, api.ErrState)
	a, n, e = Reverse(one, 3)
	zero(a, n, 0, e, api.ErrRange)
	a, n, e = Expire(ended, 9)
	zero(a, n, 0, e, api.ErrState)
	a, n, m, e := Clear(ended, 1, true)
	zero(a, n, m, e, api.ErrState)
}
