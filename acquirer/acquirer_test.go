package acquirer

import (
	"strconv"
	"strings"
	"testing"

	"cardnet/api"
	"cardnet/message"
)

const (
	card  = "4000000000000077"
	start = 20 * 86400
)

func purchase() Purchase {
	return Purchase{Merchant: "m-1", Terminal: "t1", Card: card, Amount: 1000, Currency: "EUR", Category: 5411}
}

func host(t *testing.T) *Host {
	t.Helper()
	h, e := New("shopbank", 3, 60, 30)
	if e != api.OK {
		t.Fatal(e)
	}
	return h
}

func buy(t *testing.T, h *Host, at int, p Purchase) (string, api.Message) {
	t.Helper()
	ref, m, e := h.Purchase(at, p)
	if e != api.OK || message.Check(m) != api.OK {
		t.Fatal(e)
	}
	return ref, m
}

func reply(kind int, ref, code string, more ...any) api.Message {
	m := api.Message{Type: kind, Elements: []api.Element{{Number: 37, Value: ref}, {Number: 39, Value: code}}}
	for i := 0; i < len(more); i += 2 {
		m, _ = message.With(m, more[i].(int), more[i+1].(string))
	}
	return m
}

// approve begins a sale that is approved.
func approve(t *testing.T, h *Host, at int) string {
	t.Helper()
	ref, m := buy(t, h, at, purchase())
	r, _ := message.Reply(m, "00")
	if e := h.Receive(at, r); e != api.OK {
		t.Fatal(e)
	}
	return ref
}

func state(t *testing.T, h *Host, ref string, want Sale) {
	t.Helper()
	s, ok := h.Sale(ref)
	want.Ref, want.Purchase = s.Ref, s.Purchase
	if s != want || !ok || s.Ref != ref {
		t.Error(s, want)
	}
}

func TestP30_1New(t *testing.T) {
	for i, c := range []struct {
		name                   string
		sender, timeout, retry int
		want                   api.Errno
	}{{"a-b", -1, 0, 0, api.ErrName}, {"a", -1, 1, 1, api.ErrRange}, {"a", 10, 1, 1, api.ErrRange}, {"a", 0, 0, 1, api.ErrRange}, {"a", 0, 100001, 1, api.ErrRange}, {"a", 0, 1, 0, api.ErrRange}, {"a", 0, 1, 100001, api.ErrRange}, {"a", 9, 100000, 100000, api.OK}} {
		if h, e := New(c.name, c.sender, c.timeout, c.retry); e != c.want || (h == nil) != (e != api.OK) {
			t.Error(i, e)
		}
	}
}

func TestP30_2Purchase(t *testing.T) {
	h := host(t)
	ref, m := buy(t, h, start+5, purchase())
	want := api.Message{Type: 100, Elements: []api.Element{{Number: 2, Value: card}, {Number: 3, Value: "000000"}, {Number: 4, Value: "000000001000"}, {Number: 7, Value: "0000001728005"}, {Number: 11, Value: "000001"}, {Number: 18, Value: "5411"}, {Number: 32, Value: "shopbank"}, {Number: 37, Value: "000203000001"}, {Number: 41, Value: "t1"}, {Number: 42, Value: "m-1"}, {Number: 49, Value: "EUR"}}}
	if ref != "000203000001" || !message.Same(m, want) {
		t.Error(ref, m)
	}
	change := func(f func(p *Purchase)) Purchase {
		p := purchase()
		f(&p)
		return p
	}
	for i, c := range []struct {
		at   int
		p    Purchase
		want api.Errno
	}{
		{0, change(func(p *Purchase) { p.Merchant, p.Card = "", "" }), api.ErrName}, {0, change(func(p *Purchase) { p.Merchant = "m 1" }), api.ErrName}, {0, change(func(p *Purchase) { p.Terminal = "" }), api.ErrName}, {0, change(func(p *Purchase) { p.Terminal = " a" }), api.ErrName}, {0, change(func(p *Purchase) { p.Terminal = "a " }), api.ErrName}, {0, change(func(p *Purchase) { p.Terminal = "123456789" }), api.ErrName}, {0, change(func(p *Purchase) { p.Terminal = "\n" }), api.ErrName},
		{0, change(func(p *Purchase) { p.Card, p.Amount = "12345678901", 0 }), api.ErrCard}, {0, change(func(p *Purchase) { p.Card = strings.Repeat("1", 20) }), api.ErrCard}, {0, change(func(p *Purchase) { p.Card = "40000000000000x7" }), api.ErrCard}, {0, change(func(p *Purchase) { p.Amount, p.Currency = 0, "" }), api.ErrRange}, {0, change(func(p *Purchase) { p.Amount = api.MaxAmount + 1 }), api.ErrRange}, {0, change(func(p *Purchase) { p.Least = -1 }), api.ErrRange}, {0, change(func(p *Purchase) { p.Least = 1001 }), api.ErrRange},
		{0, change(func(p *Purchase) { p.Category = 0 }), api.ErrRange}, {0, change(func(p *Purchase) { p.Category = 10000 }), api.ErrRange}, {0, change(func(p *Purchase) { p.Currency = "eur" }), api.ErrCurrency}, {start + 4, purchase(), api.ErrTime}, {100000 * 86400, purchase(), api.ErrTime},
	} {
		if ref, m, e := h.Purchase(c.at, c.p); ref != "" || !message.Same(m, api.Message{}) || e != c.want {
			t.Error(i, ref, e)
		}
	}
	ref, m = buy(t, h, start+5, change(func(p *Purchase) { p.Least, p.Card, p.Terminal = 400, "123456789012", "a b ~" }))
	if v, _ := message.Get(m, 54); v != "000000000400" || ref != "000203000002" {
		t.Error(v, ref)
	}
	for range api.MaxAuths - 2 {
		buy(t, h, start+5, purchase())
	}
	if _, _, e := h.Purchase(start+5, purchase()); e != api.ErrFull {
		t.Error(e)
	}
}

func TestP30_3P30_11Receive(t *testing.T) {
	h := host(t)
	ref, _ := buy(t, h, start, purchase())
	for i, c := range []struct {
		at   int
		m    api.Message
		want api.Errno
	}{
		{0, api.Message{}, api.ErrRange}, {0, reply(130, ref, "00"), api.ErrState}, {start - 1, reply(110, "000203000009", "00"), api.ErrTime}, {start, reply(110, "000203000009", "00"), api.ErrNone}, {start, reply(430, ref, "00", 56, ref), api.ErrNone}, {start + 9, reply(110, ref, "00", 4, "000000001001"), api.ErrRange}, {start + 9, reply(110, ref, "10", 4, "000000000000"), api.ErrRange},
	} {
		if e := h.Receive(c.at, c.m); e != c.want {
			t.Error(i, e)
		}
	}
	state(t, h, ref, Sale{State: 1})
	if e := h.Receive(start+1, reply(110, ref, "10", 4, "000000000400")); e != api.OK {
		t.Error(e)
	}
	if e := h.Receive(start+1, reply(110, ref, "05")); e != api.OK {
		t.Error(e)
	}
	state(t, h, ref, Sale{State: 2, Approved: 400})
	if e := h.Receive(start, reply(110, ref, "05")); e != api.ErrTime {
		t.Error(e)
	}
	ref, _ = buy(t, h, start+1, purchase())
	h.Receive(start+1, reply(110, ref, "51", 4, "000000009999"))
	state(t, h, ref, Sale{State: 3})
	h.Receive(start+1, reply(110, ref, "00"))
	state(t, h, ref, Sale{State: 3})
	ref, _ = buy(t, h, start+1, purchase())
	h.Receive(start+60, reply(110, ref, "00"))
	state(t, h, ref, Sale{State: 2, Approved: 1000})
	ref, _ = buy(t, h, start+60, purchase())
	h.Receive(start+120, reply(110, ref, "00", 4, "000000009999"))
	state(t, h, ref, Sale{State: 1})
}

func polls(t *testing.T, h *Host, at int, want ...string) []api.Message {
	t.Helper()
	l := h.Poll(at)
	var refs []string
	for _, m := range l {
		a, _ := message.Get(m, 37)
		b, _ := message.Get(m, 56)
		refs = append(refs, a[9:]+b[9:])
	}
	if strings.Join(refs, " ") != strings.Join(want, " ") {
		t.Error(at, refs, want)
	}
	return l
}

func TestP30_4P30_5P30_13Reversals(t *testing.T) {
	h := host(t)
	first, _ := buy(t, h, 100, purchase())
	second := approve(t, h, 110)
	if e := h.Receive(159, reply(110, "000003000009", "00")); e != api.ErrNone {
		t.Error(e)
	}
	polls(t, h, 159)
	l := polls(t, h, 160, "003001")
	want := api.Message{Type: 420, Elements: []api.Element{{Number: 2, Value: card}, {Number: 4, Value: "000000001000"}, {Number: 11, Value: "000003"}, {Number: 32, Value: "shopbank"}, {Number: 37, Value: "000003000003"}, {Number: 49, Value: "EUR"}, {Number: 56, Value: first}}}
	if !message.Same(l[0], want) {
		t.Error(l)
	}
	state(t, h, first, Sale{State: 4})
	polls(t, h, 159)
	polls(t, h, 189)
	for i, e := range []api.Errno{h.Cancel(0, "x"), h.Cancel(188, second), h.Cancel(189, first), h.Cancel(189, second), h.Cancel(189, second)} {
		if e != []api.Errno{api.ErrNone, api.ErrTime, api.ErrState, api.OK, api.ErrState}[i] {
			t.Error(i, e)
		}
	}
	state(t, h, second, Sale{State: 4})
	polls(t, h, 189, "004002")
	polls(t, h, 195, "003001")
	polls(t, h, 219, "004002")
	if e := h.Receive(220, reply(430, "000003000003", "00", 56, first)); e != api.OK {
		t.Error(e)
	}
	if e := h.Receive(220, reply(430, "000003000003", "00", 56, first)); e != api.OK {
		t.Error(e)
	}
	polls(t, h, 300, "004002")
	third := approve(t, h, 300)
	h.Capture(300, third, 1, false)
	if e := h.Cancel(300, third); e != api.ErrState {
		t.Error(e)
	}
}

func TestP30_6P30_12Capture(t *testing.T) {
	h := host(t)
	wait, _ := buy(t, h, start, purchase())
	ref := approve(t, h, start)
	capture := func(at int, ref string, amount int64, final bool, want api.Errno) {
		t.Helper()
		if e := h.Capture(at, ref, amount, final); e != want {
			t.Error(amount, final, e)
		}
	}
	capture(0, "x", 0, false, api.ErrNone)
	capture(start-1, wait, 0, false, api.ErrTime)
	capture(start, wait, 0, false, api.ErrState)
	capture(start, ref, 0, false, api.ErrRange)
	capture(start, ref, api.MaxAmount+1, true, api.ErrRange)
	capture(start, ref, 1001, false, api.ErrTolerance)
	capture(start, ref, 1201, true, api.ErrTolerance)
	capture(start, ref, 400, false, api.OK)
	capture(start, ref, 601, false, api.ErrTolerance)
	capture(start+86400, ref, 800, true, api.OK)
	capture(start+86400, ref, 0, true, api.ErrClosed)
	state(t, h, ref, Sale{State: 2, Approved: 1000, Captured: 1200})
	many := approve(t, h, start+86400)
	for range api.MaxParts {
		capture(start+86400, many, 1, false, api.OK)
	}
	capture(start+86400, many, 0, true, api.ErrLimit)
	b, _ := h.Batch(21)
	want := api.Record{Kind: api.RcPresent, Id: ref + "-1", Auth: ref, Acquirer: "shopbank", Issuer: "network", Merchant: "m-1", Card: card, Amount: api.Money{Amount: 400, Currency: "EUR"}, Date: 20, Category: 5411}
	if b.Records[0] != want {
		t.Error(b.Records[0])
	}
	want.Id, want.Amount.Amount, want.Date, want.Final = ref+"-2", 800, 21, true
	if b.Records[1] != want || b.Records[9].Id != many+"-8" {
		t.Error(b.Records[1])
	}
}

func TestP30_7Refund(t *testing.T) {
	h := host(t)
	ref := approve(t, h, start)
	h.Capture(start, ref, 400, true)
	for i, e := range []api.Errno{h.Refund(0, "x", 0), h.Refund(start-1, ref, 0), h.Refund(start, ref, 0), h.Refund(start, ref, 401), h.Refund(start, ref, 300), h.Refund(start, ref, 101)} {
		if e != []api.Errno{api.ErrNone, api.ErrTime, api.ErrRange, api.ErrRange, api.OK, api.ErrRange}[i] {
			t.Error(i, e)
		}
	}
	for range api.MaxParts - 1 {
		h.Refund(start, ref, 1)
	}
	if e := h.Refund(start, ref, 0); e != api.ErrLimit {
		t.Error(e)
	}
	state(t, h, ref, Sale{State: 2, Approved: 1000, Captured: 400, Refunded: 307})
	b, _ := h.Batch(20)
	want := api.Record{Kind: api.RcRefund, Id: ref + "r1", Acquirer: "shopbank", Issuer: "network", Merchant: "m-1", Card: card, Amount: api.Money{Amount: 300, Currency: "EUR"}, Date: 20, Category: 5411}
	if len(b.Records) != 9 || b.Records[1] != want {
		t.Error(b.Records)
	}
}

func TestP30_8P30_9Files(t *testing.T) {
	h := host(t)
	for date, want := range map[int]api.Errno{-1: api.ErrTime, api.MaxDate + 1: api.ErrTime, 5: api.ErrNone} {
		if b, e := h.Batch(date); b.Id != "" || e != want {
			t.Error(date, e)
		}
	}
	ref := approve(t, h, start)
	h.Capture(start, ref, 400, false)
	if e := h.Resubmit(ref+"-1", "", ""); e != api.ErrNone {
		t.Error(e)
	}
	if b, e := h.Batch(20); b.Id != "F20-1" || b.Sender != "shopbank" || b.Date != 20 || len(b.Records) != 1 || e != api.OK {
		t.Error(b, e)
	}
	for i, e := range []api.Errno{h.Resubmit("x", "1", "a b"), h.Resubmit(ref+"-1", "1", "a b"), h.Resubmit(ref+"-1", "", "a b"), h.Resubmit(ref+"-1", "123456789012", "other"), h.Resubmit(ref+"-1s1", "", ""), h.Resubmit(ref+"-1", "", "")} {
		if e != []api.Errno{api.ErrNone, api.ErrCard, api.ErrName, api.OK, api.ErrNone, api.OK}[i] {
			t.Error(i, e)
		}
	}
	b, e := h.Batch(7)
	if b.Id != "F7-2" || len(b.Records) != 2 || b.Records[0].Id != ref+"-1s1" || b.Records[0].Card != "123456789012" || b.Records[0].Auth != "other" || b.Records[1].Id != ref+"-1s2" || b.Records[1].Card != card || b.Records[1].Auth != ref || e != api.OK {
		t.Error(b, e)
	}
	h.Resubmit(ref+"-1s1", "", "")
	b, _ = h.Batch(7)
	if b.Records[0].Id != ref+"-1s3" || b.Records[0].Card != "123456789012" {
		t.Error(b)
	}
	for range 6 {
		h.Resubmit(ref+"-1s3", "", "")
	}
	if h.Resubmit(ref+"-1", "", "") != api.ErrLimit || h.Resubmit(ref+"-1s2", "1", "") != api.ErrCard || h.Resubmit(ref+"-1s2", "", "") != api.ErrLimit {
		t.Error("ten copies")
	}
	h = host(t)
	for range 26 {
		ref := approve(t, h, start)
		for range api.MaxParts {
			h.Capture(start, ref, 1, false)
		}
	}
	a, _ := h.Batch(20)
	b, _ = h.Batch(20)
	seen := map[string]bool{}
	for _, r := range append(a.Records, b.Records...) {
		seen[r.Id] = true
	}
	if len(a.Records) != 200 || len(b.Records) != 8 || len(seen) != 208 || b.Id != "F20-2" {
		t.Error(len(a.Records), len(b.Records), len(seen))
	}
}

func TestP30_10Queries(t *testing.T) {
	h := host(t)
	next := func(want int, wantOk bool) {
		t.Helper()
		if at, ok := h.Next(); at != want || ok != wantOk {
			t.Error(at, ok)
		}
	}
	next(0, false)
	a, _ := buy(t, h, 100, purchase())
	b, _ := buy(t, h, 110, purchase())
	next(160, true)
	h.Poll(165)
	next(170, true)
	h.Receive(166, reply(110, b, "00"))
	next(195, true)
	h.Cancel(167, b)
	next(167, true)
	var refs []string
	for _, s := range h.Sales() {
		refs = append(refs, s.Ref+strconv.Itoa(s.State))
	}
	if strings.Join(refs, " ") != a+"4 "+b+"4" {
		t.Error(refs)
	}
	if s, ok := h.Sale("x"); ok || s != (Sale{}) {
		t.Error(s)
	}
	for _, none := range []*Host{nil, {}} {
		_, _, e := none.Purchase(0, purchase())
		_, f := none.Batch(0)
		_, ok := none.Sale(a)
		_, some := none.Next()
		if e != api.ErrNone || f != api.ErrNone || ok || some || none.Receive(0, reply(110, a, "00")) != api.ErrNone || none.Cancel(0, a) != api.ErrNone || none.Poll(0) != nil || none.Capture(0, a, 1, true) != api.ErrNone || none.Refund(0, a, 1) != api.ErrNone || none.Resubmit(a, "", "") != api.ErrNone || none.Sales() != nil {
			t.Error("missing host")
		}
	}
}
