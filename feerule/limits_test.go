package feerule

import (
	"testing"

	"cardnet/api"
)

func TestP36_1P36_2Limits(t *testing.T) {
	for i, r := range []api.FeeRule{{Bps: 10000}, {Fixed: api.MaxAmount}, {Min: api.MaxAmount}, {Min: api.MaxAmount, Max: api.MaxAmount}, {Max: 1}} {
		r.Name, r.When = "a", when(t, "1 = 1")
		if e := Check([]api.FeeRule{r}, nil); e != api.OK {
			t.Error(i, e)
		}
	}
	if n, e := Fee(api.FeeRule{Fixed: 9, Max: 1}, 0); n != 1 || e != api.OK {
		t.Error(n, e)
	}
}
