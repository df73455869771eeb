package account

import (
	"testing"

	"cardnet/api"
)

func TestP13_2P13_4P13_5P13_6P13_7P13_8Limits(t *testing.T) {
	a := of(t, api.MaxAmount, api.MaxAmount)
	for i, e := range []api.Errno{a.Hold("a", api.MaxAmount), a.Raise("a", 1), a.Force("a", 1), a.Hold("b", api.MaxAmount-1), a.Raise("b", 1), a.Raise("b", 1), a.Hold("c", 1), a.Release("b", 1), a.Force("b", 1), a.Release("b", api.MaxAmount), a.Hold("d", 1), a.Capture("d", 1, api.MaxAmount), a.Post(api.MaxAmount), a.Post(-api.MaxAmount)} {
		if e != []api.Errno{api.OK, api.ErrRange, api.ErrRange, api.OK, api.OK, api.ErrRange, api.ErrFunds, api.OK, api.OK, api.OK, api.OK, api.OK, api.OK, api.OK}[i] {
			t.Error(i, e)
		}
	}
	want(t, a, 0, api.MaxAmount, 0)
	if n, e := a.HoldUpTo("e", 1, 1); n != 0 || e != api.ErrFunds {
		t.Error(n, e)
	}
	b := of(t, 5, 0)
	if n, e := b.HoldUpTo("e", 9, 5); n != 5 || e != api.OK {
		t.Error(n, e)
	}
	up, down := of(t, 0, 0), of(t, 0, 0)
	down.Force("f", 1)
	rest := int64(api.MaxTotal % api.MaxAmount)
	for range api.MaxTotal / api.MaxAmount {
		up.Post(api.MaxAmount)
		down.Post(-api.MaxAmount)
	}
	if up.Post(rest+1) != api.ErrRange || up.Post(rest) != api.OK || down.Post(-rest-1) != api.ErrRange || down.Capture("f", 0, rest+1) != api.ErrRange || down.Post(-rest+1) != api.OK || down.Post(-2) != api.ErrRange || down.Capture("f", 0, 2) != api.ErrRange || down.Capture("f", 0, 1) != api.OK || down.Post(-1) != api.ErrRange {
		t.Error(up.Balance(), down.Balance())
	}
	if up.Balance() != api.MaxTotal || down.Balance() != -api.MaxTotal {
		t.Error(up.Balance(), down.Balance())
	}
}
