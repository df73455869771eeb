package issuer

import (
	"testing"

	"cardnet/api"
)

func TestP29_4P29_6P29_8Limits(t *testing.T) {
	h := host(t)
	handle(t, h, 10, request(1, 600), "00 600")
	r := record(1, "a", ref(1), number, 100)
	r.Final = true
	if e := h.Post(10, r); e != api.OK {
		t.Error(e)
	}
	holds(t, h, number, 900, 0)
	handle(t, h, 10, request(2, 1, 54, pad(1)), "00 1")
	handle(t, h, 10, request(3, 900, 54, pad(900)), "51")
	handle(t, h, 10, request(4, 899, 54, pad(899)), "00 899")
	handle(t, h, 10, request(5, 1, 49, "USD", 54, pad(1)), "12")
	handle(t, h, 10, advice(6, 1), "00")
	holds(t, h, number, 900, 901)
	handle(t, h, 11, msg(120, 6, number, 1, 39, "00", 56, ref(9)), "00")
	if a, _ := h.Auth(ref(6)); a.Approved != 1 || a.Until != 10+7*day {
		t.Error(a)
	}
	if e := h.Post(11, record(2, "b", "", number, api.MaxAmount)); e != api.OK {
		t.Error(e)
	}
}
