package issuer

import (
	"slices"
	"strconv"
	"strings"
	"testing"

	"cardnet/api"
	"cardnet/auth"
	"cardnet/message"
	"cardnet/ruletext"
)

const (
	number = "4000000000000077"
	other  = "4111111111111111"
	day    = 86400
)

func host(t *testing.T) *Host {
	t.Helper()
	h, e := New("homebank", "EUR", 7)
	if e != api.OK || h.Issue(number, 100, 1000, 0, 5000, 5) != api.OK || h.Issue(other, 100, 1000, 0, 700, 2) != api.OK {
		t.Fatal(e)
	}
	return h
}

func ref(n int) string {
	s := strconv.Itoa(n)
	return "000010" + strings.Repeat("0", 6-len(s)) + s
}

func pad(n int64) string {
	s := strconv.FormatInt(n, 10)
	return strings.Repeat("0", 12-len(s)) + s
}

// msg builds a message about a purchase with the number n; more has numbers and values of further elements.
func msg(kind, n int, card string, amount int64, more ...any) api.Message {
	m := api.Message{Type: kind}
	put := func(k int, v string) {
		next, e := message.With(m, k, v)
		if e != api.OK {
			panic(strconv.Itoa(k) + " " + v)
		}
		m = next
	}
	for k, v := range map[int]string{2: card, 3: "000000", 4: pad(amount), 7: "0000000000005", 11: ref(n)[6:], 32: "shopbank", 37: ref(n), 41: "T1", 42: "SHOP1", 49: "EUR"} {
		if kind < 400 || k != 3 && k != 7 && k != 41 && k != 42 {
			put(k, v)
		}
	}
	for i := 0; i < len(more); i += 2 {
		put(more[i].(int), more[i+1].(string))
	}
	return m
}

func request(n int, amount int64, more ...any) api.Message {
	return msg(100, n, number, amount, more...)
}

func reversal(n, original int) api.Message { return msg(420, n, number, 1, 56, ref(original)) }

func advice(n int, amount int64) api.Message { return msg(120, n, number, amount, 39, "00") }

// handle expects a response code, with the approved amount after a space if the reply has one.
func handle(t *testing.T, h *Host, at int, m api.Message, want string) api.Message {
	t.Helper()
	r, e := h.Handle(at, m)
	got, _ := message.Get(r, 39)
	if approval, ok := message.Get(r, 38); ok {
		amount, _ := message.Number(r, 4)
		got += " " + strconv.FormatInt(amount, 10)
		if own, _ := message.Get(r, 37); approval != own[6:] {
			t.Error(approval)
		}
	}
	if got != want || e != api.OK || !message.Answers(m, r) || message.Check(r) != api.OK {
		t.Error(got, e, want)
	}
	return r
}

func holds(t *testing.T, h *Host, card string, balance, held int64) {
	t.Helper()
	b, x, ok := h.Account(card)
	if b != balance || x != held || !ok {
		t.Error(card, b, x, ok)
	}
}

func TestP29_1P29_2New(t *testing.T) {
	for i, c := range []struct {
		name, currency string
		days           int
		want           api.Errno
	}{{"a-b", "", 0, api.ErrName}, {"a", "eur", 0, api.ErrCurrency}, {"a", "EUR", 0, api.ErrRange}, {"a", "EUR", 366, api.ErrRange}, {"a", "EUR", 365, api.OK}} {
		if h, e := New(c.name, c.currency, c.days); e != c.want || (h == nil) != (e != api.OK) {
			t.Error(i, e)
		}
	}
	h := host(t)
	for i, e := range []api.Errno{h.Issue("1", -1, -1, -1, -1, -1), h.Issue(number, -1, 0, -1, 0, 0), h.Issue(number, 0, 0, -1, -1, 0), h.Issue(number, 0, 0, -1, 0, 0), h.Issue(number, 0, 0, 0, 0, 0), h.Card("x", 9), h.Card(number, 9), h.Card(number, 1), h.Card(number, 2), h.Rules(nil, 2, 1), h.Rules(nil, 1, 1)} {
		if e != []api.Errno{api.ErrShort, api.ErrTime, api.ErrRange, api.ErrRange, api.ErrExists, api.ErrNone, api.ErrRange, api.ErrState, api.OK, api.ErrRange, api.OK}[i] {
			t.Error(i, e)
		}
	}
}

func TestP29_3P29_11Handle(t *testing.T) {
	h := host(t)
	bad := request(1, 5)
	bad.Elements = bad.Elements[1:]
	for i, c := range []struct {
		at   int
		m    api.Message
		want api.Errno
	}{{-1, bad, api.ErrShort}, {-1, request(1, 5), api.ErrTime}, {100000 * day, request(1, 5), api.ErrTime}, {5, api.Message{Type: 110, Elements: []api.Element{{Number: 37, Value: ref(1)}, {Number: 39, Value: "00"}}}, api.ErrState}, {5, api.Message{Type: 1}, api.ErrState}} {
		if r, e := h.Handle(c.at, c.m); !message.Same(r, api.Message{}) || e != c.want {
			t.Error(i, e)
		}
	}
	handle(t, h, 10, api.Message{Type: 800, Elements: []api.Element{{Number: 11, Value: "000001"}, {Number: 70, Value: "301"}}}, "00")
	first := handle(t, h, 10, request(1, 600), "00 600")
	first.Elements[0].Value = "changed"
	again := handle(t, h, 20, request(1, 999), "00 600")
	if v, _ := message.Get(again, 2); v != number {
		t.Error(v)
	}
	if _, e := h.Handle(19, request(1, 600)); e != api.ErrTime {
		t.Error("a repetition does not move the time", e)
	}
	holds(t, h, number, 1000, 600)
	handle(t, h, 20, request(2, 600), "51")
	handle(t, h, 20, reversal(3, 1), "00")
	handle(t, h, 20, request(2, 600), "51")
	holds(t, h, number, 1000, 0)
	if sum, n := h.holders[number].card.Used(0); sum != 0 || n != 0 {
		t.Error(sum, n)
	}
}

func TestP29_4Requests(t *testing.T) {
	h := host(t)
	r := handle(t, h, 10, request(1, 600), "00 600")
	if v, _ := message.Get(r, 38); v != "000001" {
		t.Error(v)
	}
	handle(t, h, 10, request(2, 600), "51")
	handle(t, h, 10, request(3, 600, 54, pad(401)), "51")
	handle(t, h, 10, request(4, 600, 54, pad(100)), "10 400")
	handle(t, h, 10, msg(100, 5, "5000000000000009", 0), "14")
	handle(t, h, 10, request(6, 5, 49, "USD"), "12")
	handle(t, h, 10, request(7, 0), "12")
	handle(t, h, 10, request(8, 5, 54, pad(0)), "12")
	handle(t, h, 10, request(9, 5, 54, pad(6)), "12")
	handle(t, h, 10, reversal(20, 10), "00")
	handle(t, h, 10, msg(100, 10, "5000000000000009", 0), "05")
	handle(t, h, 10, msg(100, 1, number, 5, 56, ref(9)), "00 600")
	h.Card(other, 2)
	handle(t, h, 10, msg(100, 11, other, 701), "41")
	h.Card(other, 3)
	handle(t, h, 101*day, msg(100, 12, other, 701), "33")
	h = host(t)
	handle(t, h, 10, msg(100, 13, other, 701), "61")
	handle(t, h, 10, msg(100, 14, other, 100), "00 100")
	handle(t, h, 10, msg(100, 15, other, 601), "61")
	handle(t, h, 10, msg(100, 16, other, 100), "00 100")
	handle(t, h, 10, msg(100, 17, other, 1), "65")
	handle(t, h, day, msg(100, 18, other, 700), "00 700")
	handle(t, h, 2*day, msg(100, 19, other, 700, 54, pad(1)), "10 100")
	if a, ok := h.Auth(ref(18)); !ok || a != (api.Auth{Id: ref(18), Currency: "EUR", Approved: 700, State: api.AuthOpen, At: day, Until: 8 * day}) {
		t.Error(a)
	}
}

func TestP29_4Full(t *testing.T) {
	h, _ := New("homebank", "EUR", 1)
	for i := range 5 {
		h.Issue("40000000000"+strconv.Itoa(i)+luhn[i], 99999, 1e9, 0, 1e9, 1000)
	}
	for i := range api.MaxAuths {
		handle(t, h, 10, msg(100, i+1, "40000000000"+strconv.Itoa(i/60)+luhn[i/60], 5), "00 5")
	}
	card := "400000000004" + luhn[4]
	handle(t, h, 10, msg(100, 900, card, 5), "12")
	handle(t, h, 10, msg(120, 901, card, 5, 39, "00"), "12")
	h = host(t)
	h.Issue("5000000000000009", 100, 1e9, 0, 1e9, 1000)
	for i := range api.MaxHolds {
		handle(t, h, 10, msg(100, i+1, "5000000000000009", 5), "00 5")
	}
	handle(t, h, 10, msg(100, 900, "5000000000000009", 5), "12")
	handle(t, h, 10, msg(120, 901, "5000000000000009", 5, 39, "00"), "12")
}

// luhn has the check digits that complete 40000000000 and one more digit.
var luhn = func() (l [5]string) {
	for i := range l {
		for d := range 10 {
			s := "40000000000" + strconv.Itoa(i) + strconv.Itoa(d)
			sum := 0
			for k := range len(s) {
				x := int(s[len(s)-1-k] - '0')
				if k%2 == 1 {
					x = x*2 - x/5*9
				}
				sum += x
			}
			if sum%10 == 0 {
				l[i] = strconv.Itoa(d)
			}
		}
	}
	return l
}()

func TestP29_4Rules(t *testing.T) {
	h := host(t)
	l, e, at := ruletext.Parse("rule twice when 1 <= count(card, 60): refer; rule big when 500 < amount: decline;")
	if e != api.OK || h.Rules(l, 5, 5) != api.OK {
		t.Fatal(e, at)
	}
	handle(t, h, 10, msg(100, 1, other, 501), "05")
	handle(t, h, 10, msg(100, 2, other, 500), "00 500")
	handle(t, h, 69, msg(100, 3, other, 1), "91")
	handle(t, h, 70, msg(100, 4, other, 1), "00 1")
	handle(t, h, 71, request(5, 1), "00 1")
	handle(t, h, 200, advice(6, 900), "00")
	handle(t, h, 201, request(7, 1), "91")
	h.Rules(nil, 1, 1)
	handle(t, h, 202, request(8, 1), "00 1")
}

func TestP29_5Raises(t *testing.T) {
	h := host(t)
	handle(t, h, 10, request(1, 600), "00 600")
	handle(t, h, 20, request(2, 1, 95, pad(100), 56, ref(1)), "00")
	if a, _ := h.Auth(ref(1)); a.Approved != 700 || a.Until != 20+7*day {
		t.Error(a)
	}
	holds(t, h, number, 1000, 700)
	handle(t, h, 20, request(3, 1, 95, pad(301), 56, ref(1)), "51")
	handle(t, h, 20, request(4, 1, 95, pad(0), 56, ref(1)), "12")
	handle(t, h, 20, request(5, 1, 95, pad(1), 56, ref(1), 49, "USD"), "12")
	handle(t, h, 20, request(6, 1, 95, pad(1)), "25")
	handle(t, h, 20, request(7, 1, 95, pad(1), 56, ref(9)), "25")
	handle(t, h, 20, msg(100, 8, other, 1, 95, pad(1), 56, ref(1)), "25")
	handle(t, h, 20, reversal(30, 9), "00")
	handle(t, h, 20, request(9, 1, 95, pad(1), 56, ref(1)), "05")
	handle(t, h, 20, request(10, 1, 95, pad(api.MaxAmount), 56, ref(1)), "12")
	handle(t, h, 20, reversal(31, 1), "00")
	handle(t, h, 20, request(11, 1, 95, pad(1), 56, ref(1)), "25")
	holds(t, h, number, 1000, 0)
}

func TestP29_6P29_14Advices(t *testing.T) {
	h := host(t)
	h.Card(number, 2)
	handle(t, h, 10, advice(1, 1500), "00")
	holds(t, h, number, 1000, 1500)
	handle(t, h, 10, msg(120, 2, number, 5, 39, "91"), "00")
	handle(t, h, 10, msg(120, 3, "5000000000000009", 0, 39, "00"), "14")
	handle(t, h, 10, msg(120, 4, number, 5, 39, "00", 49, "USD"), "12")
	handle(t, h, 10, advice(5, 0), "12")
	handle(t, h, 10, reversal(20, 6), "00")
	handle(t, h, 10, advice(6, 5), "00")
	if _, ok := h.Auth(ref(6)); ok || len(h.Auths()) != 1 {
		t.Error("an advice about a reversed reference")
	}
	handle(t, h, 10, msg(100, 7, other, 100), "00 100")
	handle(t, h, 11, msg(120, 7, other, 150, 39, "00"), "00")
	handle(t, h, 11, msg(120, 7, other, 170, 39, "00", 56, ref(9)), "00")
	handle(t, h, 12, msg(120, 7, number, 999, 39, "00", 56, ref(8)), "00")
	handle(t, h, 12, msg(120, 7, other, 50, 39, "00", 56, ref(7)), "00")
	if a, _ := h.Auth(ref(7)); a.Approved != 170 || a.Until != 10+7*day {
		t.Error(a)
	}
	holds(t, h, other, 1000, 170)
	handle(t, h, 12, reversal(21, 7), "00")
	handle(t, h, 12, msg(120, 7, other, 500, 39, "00", 56, ref(6)), "00")
	holds(t, h, other, 1000, 0)
}

func TestP29_7Reversals(t *testing.T) {
	h := host(t)
	handle(t, h, 10, request(1, 600), "00 600")
	handle(t, h, day, msg(400, 2, number, 1, 56, ref(1)), "00")
	if a, _ := h.Auth(ref(1)); a.State != api.AuthReversed {
		t.Error(a)
	}
	if sum, n := h.holders[number].card.Used(0); sum != 0 || n != 0 {
		t.Error(sum, n)
	}
	handle(t, h, day, request(3, 600), "00 600")
	if e := h.Post(day, record(1, "p", ref(3), number, 100)); e != api.OK {
		t.Error(e)
	}
	handle(t, h, day, reversal(4, 3), "00")
	handle(t, h, day, reversal(5, 3), "00")
	if a, _ := h.Auth(ref(3)); a.State != api.AuthCleared || a.Reversed != 500 {
		t.Error(a)
	}
	holds(t, h, number, 900, 0)
}

func record(kind int, id, auth, card string, amount int64) api.Record {
	return api.Record{Kind: kind, Id: id, Auth: auth, Acquirer: "shopbank", Issuer: "homebank", Merchant: "SHOP1", Card: card, Amount: api.Money{Amount: amount, Currency: "EUR"}}
}

func TestP29_8P29_13Post(t *testing.T) {
	h := host(t)
	handle(t, h, 10, request(1, 600), "00 600")
	final := record(1, "a1", ref(1), number, 700)
	final.Final = true
	usd := record(1, "u", "", number, 5)
	usd.Amount.Currency = "USD"
	for i, c := range []struct {
		at   int
		r    api.Record
		want api.Errno
	}{
		{0, record(0, "", "", "", 5), api.ErrRange}, {0, record(5, "", "", "", 5), api.ErrRange}, {0, record(1, "", "", "", 0), api.ErrRange}, {0, record(1, "", "", "", api.MaxAmount+1), api.ErrRange}, {0, record(1, "a b", "", "", 5), api.ErrName}, {9, usd, api.ErrTime}, {10, usd, api.ErrCurrency}, {10, record(1, "a", "", "x", 5), api.ErrNone},
		{10, record(1, "a", ref(9), number, 5), api.ErrNone}, {10, record(1, "a", ref(1), other, 5), api.ErrNone}, {20, record(1, "a", ref(1), number, 100), api.OK}, {20, record(2, "a", "", "x", 5), api.ErrNone}, {20, record(2, "a", "", other, 5), api.ErrDuplicate}, {19, record(2, "b", "", number, 50), api.ErrTime}, {20, record(2, "b", "", number, 50), api.OK},
		{20, record(3, "c", ref(9), number, 30), api.OK}, {20, record(4, "d", ref(9), number, 20), api.OK}, {20, record(1, "e", "", number, 7), api.OK}, {30, final, api.OK}, {30, record(1, "f", ref(1), number, 1), api.ErrState},
	} {
		if e := h.Post(c.at, c.r); e != c.want {
			t.Error(i, e)
		}
	}
	holds(t, h, number, 1000-100+50+30-20-7-700, 0)
	for id, want := range map[string]int64{"a": 100, "b": -50, "c": -30, "d": 20, "e": 7, "a1": 700} {
		if n, ok := h.Charged(id); n != want || !ok {
			t.Error(id, n, ok)
		}
	}
	if n, ok := h.Charged("f"); n != 0 || ok {
		t.Error(n, ok)
	}
	if _, e := h.Handle(29, request(2, 1)); e != api.ErrTime {
		t.Error(e)
	}
	for range api.MaxTotal/api.MaxAmount + 1 {
		id := "p" + strconv.Itoa(len(h.charged))
		h.Post(30, record(4, id, "", other, api.MaxAmount))
	}
	if e := h.Post(30, record(4, "last", "", other, api.MaxAmount)); e != api.ErrRange {
		t.Error(e)
	}
	if _, ok := h.Charged("last"); ok {
		t.Error("a record that was not posted")
	}
}

func TestP29_9P29_10P29_12Expire(t *testing.T) {
	h := host(t)
	handle(t, h, 10, request(2, 100), "00 100")
	handle(t, h, 10, request(1, 200), "00 200")
	handle(t, h, 20, msg(100, 3, other, 300), "00 300")
	handle(t, h, 20, reversal(9, 1), "00")
	held := func() (sum int64) {
		for _, a := range h.Auths() {
			sum += auth.Open(a)
		}
		return sum
	}
	if held() != 400 {
		t.Error(held())
	}
	if l := h.Expire(9); l != nil {
		t.Error(l)
	}
	if l := h.Expire(7*day + 9); l != nil {
		t.Error(l)
	}
	if l := h.Expire(7*day + 10); !slices.Equal(l, []string{ref(2)}) || held() != 300 {
		t.Error(l)
	}
	if l := h.Expire(7*day + 20); !slices.Equal(l, []string{ref(3)}) || held() != 0 {
		t.Error(l)
	}
	holds(t, h, number, 1000, 0)
	holds(t, h, other, 1000, 0)
	if e := h.Post(7*day, record(2, "x", "", number, 1)); e != api.ErrTime {
		t.Error("Expire moves the time", e)
	}
	var ids []string
	for _, a := range h.Auths() {
		ids = append(ids, a.Id)
	}
	if !slices.Equal(ids, []string{ref(2), ref(1), ref(3)}) {
		t.Error(ids)
	}
	if a, ok := h.Auth("x"); ok || a != (api.Auth{}) {
		t.Error(a)
	}
	for _, none := range []*Host{nil, {}} {
		_, e := none.Handle(1, request(1, 1))
		b, x, ok := none.Account(number)
		_, found := none.Auth("a")
		_, posted := none.Charged("a")
		if e != api.ErrNone || b != 0 || x != 0 || ok || found || posted || none.Issue(number, 1, 1, 1, 1, 1) != api.ErrNone || none.Card(number, 1) != api.ErrNone || none.Rules(nil, 1, 1) != api.ErrNone || none.Post(1, record(1, "a", "", number, 1)) != api.ErrNone || none.Expire(1) != nil || none.Auths() != nil {
			t.Error("missing host")
		}
	}
}

func TestP29Example(t *testing.T) {
	h := host(t)
	handle(t, h, 10, request(1, 600), "00 600")
	handle(t, h, 10, request(2, 600), "51")
	handle(t, h, 10, request(3, 600, 54, pad(100)), "10 400")
	handle(t, h, 10, reversal(4, 1), "00")
	holds(t, h, number, 1000, 400)
	r := record(1, "p1", ref(3), number, 400)
	r.Final = true
	if e := h.Post(10, r); e != api.OK {
		t.Error(e)
	}
	holds(t, h, number, 600, 0)
}
