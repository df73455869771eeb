package acquirer

import (
	"testing"

	"cardnet/api"
)

func TestP30_2P30_3P30_6P30_7P30_8Limits(t *testing.T) {
	for _, n := range []int{1, 100000} {
		if _, e := New("a", 0, n, n); e != api.OK {
			t.Error(n, e)
		}
	}
	h := host(t)
	for i, change := range []func(p *Purchase){
		func(p *Purchase) { p.Card = "123456789012" }, func(p *Purchase) { p.Card = "1234567890123456789" }, func(p *Purchase) { p.Terminal = "12345678" }, func(p *Purchase) { p.Terminal = "~!" },
		func(p *Purchase) { p.Amount, p.Least = 1, 1 }, func(p *Purchase) { p.Amount, p.Least = api.MaxAmount, api.MaxAmount }, func(p *Purchase) { p.Category = 1 }, func(p *Purchase) { p.Category = 9999 },
	} {
		p := purchase()
		change(&p)
		if _, _, e := h.Purchase(start, p); e != api.OK {
			t.Error(i, e)
		}
	}
	p := purchase()
	p.Terminal = "a\x7f"
	if _, _, e := h.Purchase(start, p); e != api.ErrName {
		t.Error(e)
	}
	for _, amount := range []string{"000000000001", "000000001000"} {
		ref, _ := buy(t, h, start, purchase())
		if e := h.Receive(start+59, reply(110, ref, "10", 4, amount)); e != api.OK {
			t.Error(e)
		}
		if s, _ := h.Sale(ref); s.State != 2 {
			t.Error(s)
		}
		h = host(t)
	}
	late, _ := buy(t, h, start, purchase())
	h.Receive(start+60, reply(110, late, "00"))
	state(t, h, late, Sale{State: 1})
	p = purchase()
	p.Amount = api.MaxAmount
	ref, m := buy(t, h, start+60, p)
	if e := h.Receive(start+60, reply(110, ref, "00")); e != api.OK || m.Type != 100 {
		t.Error(e)
	}
	for i, e := range []api.Errno{h.Capture(start+60, ref, api.MaxAmount, false), h.Capture(start+60, ref, 1, false), h.Refund(start+60, ref, api.MaxAmount), h.Refund(start+60, ref, 1)} {
		if e != []api.Errno{api.OK, api.ErrTolerance, api.OK, api.ErrRange}[i] {
			t.Error(i, e)
		}
	}
	if b, e := h.Batch(0); b.Id != "F0-1" || e != api.OK {
		t.Error(b, e)
	}
	h.Resubmit(ref+"-1", "", "")
	if b, e := h.Batch(api.MaxDate); b.Id != "F99999-2" || e != api.OK {
		t.Error(b, e)
	}
}
