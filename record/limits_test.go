package record

import (
	"testing"

	"cardnet/api"
)

func TestP32_1Limits(t *testing.T) {
	for i, change := range []func(r *api.Record){func(r *api.Record) { r.Amount.Amount = 1 }, func(r *api.Record) { r.Category = 9999 }, func(r *api.Record) { r.Category = 0 }, func(r *api.Record) { r.Date = 0 }} {
		r := sample()
		change(&r)
		if e := Check(r); e != api.OK {
			t.Error(i, e)
		}
	}
}
