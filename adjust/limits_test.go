package adjust

import (
	"testing"

	"cardnet/api"
)

func TestP47_2P47_4Limits(t *testing.T) {
	for _, amount := range []int64{1, 1000} {
		c := dcase()
		c.Amount.Amount = amount
		if r, ok, e := Move(c, rec(), 0, 1, 10, 1); r.Amount.Amount != amount || !ok || e != api.OK {
			t.Error(amount, e)
		}
	}
	if _, _, e := Move(dcase(), rec(), 6, 1, 10, 1); e != api.ErrState {
		t.Error(e)
	}
	if n := Net([]api.Record{{Kind: api.RcChargeback, Amount: api.Money{Amount: api.MaxAmount}}}); n != api.MaxAmount {
		t.Error(n)
	}
}
