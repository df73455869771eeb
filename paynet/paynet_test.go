package paynet

import (
	"strconv"
	"strings"
	"testing"

	"cardnet/acquirer"
	"cardnet/api"
	"cardnet/assess"
	"cardnet/auth"
	"cardnet/feetext"
	"cardnet/matching"
)

const day = 86400

func fees(t *testing.T, s string) []api.FeeRule {
	t.Helper()
	l, e, at := feetext.Parse(s)
	if e != api.OK {
		t.Fatal(s, e, at)
	}
	return l
}

func setup(t *testing.T, faults ...api.Fault) Setup {
	t.Helper()
	one := fees(t, "fee all when 1 = 1: 1%;")
	return Setup{
		Banks:     []Bank{{Name: "homebank", Low: "400000", High: "400999", Cards: 2, Balance: 10000, Daily: 100000, Each: 1000, Day: 5000, Count: 5}, {Name: "farbank", Low: "51", High: "52", Cards: 1, Balance: 500, Limit: 500, Daily: 900}},
		Acquirers: []string{"shopbank", "acq2"}, Currency: "EUR", Latency: 1, Timeout: 60, Retry: 30, Days: 7, Cutoff: 64800,
		Tables: assess.Tables{Interchange: one, Scheme: one, Merchant: one}, Tolerance: matching.Tolerance{Bps: 1500},
		Reasons: []api.Reason{{Code: "fraud", FileDays: 120, RepresentDays: 45, PrearbDays: 30, AnswerDays: 30, Claim: []string{"letter"}, Defence: []string{"receipt"}}},
		Faults:  faults,
	}
}

func of(t *testing.T, faults ...api.Fault) *Net {
	t.Helper()
	n, e := New(setup(t, faults...))
	if e != api.OK {
		t.Fatal(e)
	}
	return n
}

func buy(t *testing.T, n *Net, bank, card int, amount int64) string {
	t.Helper()
	number, ok := n.Card(bank, card)
	if !ok {
		t.Fatal("no card")
	}
	ref, e := n.Purchase(0, acquirer.Purchase{Merchant: "m1", Terminal: "t1", Card: number, Amount: amount, Currency: "EUR", Category: 5411})
	if e != api.OK {
		t.Fatal(e)
	}
	return ref
}

func advance(t *testing.T, n *Net, to int) {
	t.Helper()
	if e := n.Advance(to); e != api.OK || n.Now() != to {
		t.Error(to, e)
	}
}

func state(t *testing.T, n *Net, ref string, want int, approved int64) {
	t.Helper()
	if s, ok := n.Sale(ref); !ok || s.State != want || s.Approved != approved {
		t.Error(ref, s)
	}
}

func holder(t *testing.T, n *Net, bank, card int, balance, held int64) {
	t.Helper()
	number, _ := n.Card(bank, card)
	if b, h, ok := n.Holder(number); b != balance || h != held || !ok {
		t.Error(bank, card, b, h, ok)
	}
}

func clears(t *testing.T, n *Net, want string, we api.Errno) {
	t.Helper()
	l, e := n.Clear()
	s := ""
	for _, r := range l {
		s += strconv.Itoa(r.Index) + r.Id + " " + strconv.Itoa(int(r.Code)) + ","
	}
	if s != want || e != we {
		t.Error(s, e)
	}
}

func events(n *Net) string {
	var l []string
	for _, e := range n.Log() {
		l = append(l, strconv.Itoa(e.Kind)+"@"+strconv.Itoa(e.At)+" "+e.Party+" "+e.Ref+" "+strconv.FormatInt(e.Amount.Amount, 10)+e.Amount.Currency)
	}
	return strings.Join(l, "; ")
}

func positions(n *Net, date int) string {
	s := ""
	for _, p := range n.Positions(date) {
		s += p.Party + " " + strconv.FormatInt(p.Net.Amount, 10) + " "
	}
	return strings.TrimSpace(s)
}

// sound examines what must always hold.
func sound(t *testing.T, n *Net, total int64) {
	t.Helper()
	if n.Total() != total {
		t.Error("total", n.Total(), total)
	}
	held, open := int64(0), int64(0)
	for _, b := range n.banks {
		for _, c := range b.cards {
			_, h, _ := n.Holder(c)
			held += h
		}
	}
	for _, a := range n.Auths() {
		open += auth.Open(a)
	}
	if held != open {
		t.Error("holds", held, open)
	}
	for date := range n.date() + 11 {
		sum := int64(0)
		for _, p := range n.Positions(date) {
			sum += p.Net.Amount
		}
		if sum != 0 {
			t.Error("positions", date, sum)
		}
	}
	for _, s := range n.Sales() {
		a, ok := n.Auth(s.Ref)
		if n.Quiet() && (s.State == 2 && (!ok || auth.Open(a) > 0 && a.Approved < s.Approved) || s.State > 2 && ok && auth.Open(a) > 0) {
			t.Error("agreement", s, a)
		}
	}
}

func TestP51_1New(t *testing.T) {
	for i, c := range []struct {
		change func(s *Setup)
		want   api.Errno
	}{
		{func(s *Setup) {}, api.OK}, {func(s *Setup) { s.Banks, s.Currency = nil, "" }, api.ErrRange}, {func(s *Setup) { s.Banks = make([]Bank, 5) }, api.ErrRange}, {func(s *Setup) { s.Acquirers = nil }, api.ErrRange}, {func(s *Setup) { s.Acquirers = make([]string, 5) }, api.ErrRange}, {func(s *Setup) { s.Banks[1].Name = "a-b" }, api.ErrName}, {func(s *Setup) { s.Banks[1].Name = "network" }, api.ErrName}, {func(s *Setup) { s.Acquirers[0], s.Acquirers[1] = "homebank", "" }, api.ErrExists}, {func(s *Setup) { s.Acquirers[1] = "" }, api.ErrName}, {func(s *Setup) { s.Banks[0].Name = "switch" }, api.OK},
		{func(s *Setup) { s.Currency, s.Banks[0].Cards = "eur", 0 }, api.ErrCurrency}, {func(s *Setup) { s.Banks[1].Cards, s.Tables.Scheme = 9, nil }, api.ErrRange}, {func(s *Setup) { s.Banks[1].Cards = 0 }, api.ErrRange}, {func(s *Setup) { s.Banks[1].Balance = -1 }, api.ErrRange}, {func(s *Setup) { s.Banks[1].Balance = api.MaxAmount + 1 }, api.ErrRange}, {func(s *Setup) { s.Tables.Scheme, s.Tolerance.Bps = nil, -1 }, api.ErrNone}, {func(s *Setup) { s.Tolerance.Bps, s.Reasons = -1, make([]api.Reason, 1) }, api.ErrRange}, {func(s *Setup) { s.Reasons, s.Holidays = make([]api.Reason, 1), []int{-1} }, api.ErrName}, {func(s *Setup) { s.Holidays, s.Latency = make([]int, 401), 0 }, api.ErrLong}, {func(s *Setup) { s.Cutoff, s.Faults = -1, make([]api.Fault, 33) }, api.ErrRange},
		{func(s *Setup) { s.Faults, s.Retry = make([]api.Fault, 33), 0 }, api.ErrLong}, {func(s *Setup) { s.Latency = 0 }, api.ErrRange}, {func(s *Setup) { s.Faults = []api.Fault{{Kind: api.FCut, A: 0, B: 5, Until: 9}} }, api.ErrRange}, {func(s *Setup) { s.Faults = []api.Fault{{Kind: api.FCut, A: 0, B: 4, Until: 9}} }, api.OK}, {func(s *Setup) { s.Banks[1].Low = "x" }, api.ErrFormat}, {func(s *Setup) { s.Banks[1].Low, s.Banks[1].High = "400500", "400600" }, api.ErrExists}, {func(s *Setup) { s.Banks[0].Each = -1 }, api.ErrRange}, {func(s *Setup) { s.Timeout = 0 }, api.ErrRange}, {func(s *Setup) { s.Timeout = 1 }, api.OK}, {func(s *Setup) { s.Timeout = 100001 }, api.ErrRange}, {func(s *Setup) { s.Retry = 0 }, api.ErrRange},
		{func(s *Setup) { s.Days = 0 }, api.ErrRange}, {func(s *Setup) { s.Days = 366 }, api.ErrRange}, {func(s *Setup) { s.Banks[1].Low, s.Banks[1].High = "4000000000", "4000000000" }, api.ErrRoute}, {func(s *Setup) { s.Banks[1].Limit = -1 }, api.ErrRange}, {func(s *Setup) { s.Banks[0].Daily = -1 }, api.ErrRange},
	} {
		s := setup(t)
		c.change(&s)
		if n, e := New(s); e != c.want || (n == nil) != (e != api.OK) {
			t.Error(i, e)
		}
	}
}

func TestP51_2P51_9Cards(t *testing.T) {
	n := of(t)
	if s, ok := n.Card(0, 1); s != "4000000000000010" || !ok {
		t.Error(s)
	}
	for _, c := range [][2]int{{-1, 0}, {2, 0}, {0, -1}, {0, 2}, {1, 1}} {
		if s, ok := n.Card(c[0], c[1]); s != "" || ok {
			t.Error(c, s)
		}
	}
	card, _ := n.Card(0, 0)
	d := api.Domain{Requestor: "shopbank"}
	if s, e := n.Tokenize("4000000000000077", d); s != "" || e != api.ErrNone {
		t.Error(s, e)
	}
	if s, e := n.Tokenize(card, api.Domain{}); s != "" || e != api.ErrName {
		t.Error(s, e)
	}
	advance(t, n, 10)
	tok, e := n.Tokenize(card, d)
	if e != api.OK {
		t.Fatal(e)
	}
	if x, _ := n.vault.Get(tok); x.Created != 10 || x.Pan != card {
		t.Error(x)
	}
	ref, e := n.Purchase(0, acquirer.Purchase{Merchant: "m1", Terminal: "t1", Card: tok, Amount: 700, Currency: "EUR", Category: 1})
	if e != api.OK {
		t.Fatal(e)
	}
	other, _ := n.Purchase(1, acquirer.Purchase{Merchant: "m1", Terminal: "t1", Card: tok, Amount: 700, Currency: "EUR", Category: 1})
	advance(t, n, 20)
	state(t, n, ref, 2, 700)
	state(t, n, other, 3, 0)
	n.Capture(ref, 700, true)
	clears(t, n, "", api.OK)
	holder(t, n, 0, 0, 9300, 0)
	if l := n.Sales(); len(l) != 2 || l[0].Ref != ref || l[1].Ref != other || n.Currency() != "EUR" || n.Now() != 20 {
		t.Error(l)
	}
	sound(t, n, 20500)
}

func TestP51_3P51_4Purchases(t *testing.T) {
	n := of(t)
	card, _ := n.Card(0, 0)
	p := acquirer.Purchase{Merchant: "m1", Terminal: "t1", Card: card, Amount: 1000, Currency: "EUR", Category: 1}
	for i, c := range []struct {
		acquirer int
		change   func(p *acquirer.Purchase)
		want     api.Errno
	}{{-1, func(p *acquirer.Purchase) { p.Currency = "" }, api.ErrNone}, {2, func(p *acquirer.Purchase) {}, api.ErrNone}, {0, func(p *acquirer.Purchase) { p.Currency, p.Card = "USD", "" }, api.ErrCurrency}, {0, func(p *acquirer.Purchase) { p.Card = "" }, api.ErrCard}} {
		q := p
		c.change(&q)
		if ref, e := n.Purchase(c.acquirer, q); ref != "" || e != c.want {
			t.Error(i, ref, e)
		}
	}
	ref := buy(t, n, 0, 0, 1000)
	for i, e := range []api.Errno{n.Cancel("x"), n.Capture("x", 1, true), n.Refund("x", 1), n.Cancel(ref), n.Capture(ref, 1, true), n.Refund(ref, 1)} {
		if e != []api.Errno{api.ErrNone, api.ErrNone, api.ErrNone, api.ErrState, api.ErrState, api.ErrRange}[i] {
			t.Error(i, e)
		}
	}
	advance(t, n, 10)
	if e := n.Cancel(ref); e != api.OK {
		t.Error(e)
	}
	state(t, n, ref, 4, 0)
	holder(t, n, 0, 0, 10000, 1000)
	advance(t, n, 20)
	holder(t, n, 0, 0, 10000, 0)
	if s := events(n); s != "1@4 shopbank "+ref+" 1000EUR; 3@10 shopbank "+ref+" 0EUR" || !n.Quiet() {
		t.Error(s)
	}
	declined := buy(t, n, 1, 0, 901)
	advance(t, n, 30)
	state(t, n, declined, 3, 0)
	if s := events(n); !strings.HasSuffix(s, "; 2@24 shopbank "+declined+" 0EUR") {
		t.Error(s)
	}
	sound(t, n, 20500)
}

func TestP51_5Advance(t *testing.T) {
	n := of(t)
	advance(t, n, 100)
	for i, c := range []struct {
		to   int
		want api.Errno
	}{{99, api.ErrTime}, {50001 * day, api.ErrTime}, {1<<63 - 1, api.ErrTime}, {100*day + 101, api.ErrLong}, {100*day + 100, api.OK}, {100*day + 100, api.OK}} {
		if e := n.Advance(c.to); e != c.want {
			t.Error(i, e)
		}
	}
	ref := buy(t, n, 0, 0, 1000)
	start := n.Now()
	advance(t, n, start+4+7*day)
	holder(t, n, 0, 0, 10000, 0)
	if a, ok := n.Auth(ref); !ok || a.State != api.AuthExpired || a.At != start+2 {
		t.Error(a)
	}
	if s := events(n); !strings.HasSuffix(s, "; 4@"+strconv.Itoa(start+2+7*day)+" homebank "+ref+" 0EUR") {
		t.Error(s)
	}
	sound(t, n, 20500)
}

func TestP51_6P51_15Clear(t *testing.T) {
	n := of(t)
	total := n.Total()
	clears(t, n, "", api.OK)
	ref := buy(t, n, 0, 0, 1000)
	advance(t, n, 10)
	holder(t, n, 0, 0, 10000, 1000)
	if e := n.Capture(ref, 1000, true); e != api.OK {
		t.Error(e)
	}
	clears(t, n, "", api.OK)
	holder(t, n, 0, 0, 9000, 0)
	for account, want := range map[string]int64{"bank:homebank": 10, "acq:shopbank": -10, "network": 10, "holder:homebank": -1000, "shops:shopbank": 990, "x": 0} {
		if n.Balance(account) != want {
			t.Error(account, n.Balance(account))
		}
	}
	if n.Shop("m1") != 990 || n.Shop("x") != 0 || positions(n, 0) != "homebank -990 network 10 shopbank 980" {
		t.Error(n.Shop("m1"), positions(n, 0))
	}
	if s := events(n); !strings.HasSuffix(s, "; 5@10 homebank "+ref+"-1 1000EUR; 6@10 m1 "+ref+"-1 990EUR") {
		t.Error(s)
	}
	n.Refund(ref, 400)
	clears(t, n, "", api.OK)
	if s := events(n); !strings.HasSuffix(s, "; 5@10 homebank "+ref+"r1 -400EUR; 6@10 m1 "+ref+"r1 -396EUR") || n.Shop("m1") != 594 || positions(n, 0) != "homebank -594 network 14 shopbank 580" {
		t.Error(s, positions(n, 0))
	}
	sound(t, n, total)
	second := buy(t, n, 0, 0, 1000)
	advance(t, n, 20)
	n.Capture(second, 600, false)
	n.Capture(second, 400, false)
	advance(t, n, 20+8*day)
	clears(t, n, "0"+second+"-1 8,1"+second+"-2 8,", api.OK)
	if s := events(n); !strings.HasSuffix(s, "; 7@691220 shopbank "+second+"-1 0EUR; 7@691220 shopbank "+second+"-2 0EUR") {
		t.Error(s)
	}
	sound(t, n, total)
	files := len(n.intake.Files())
	for i := range api.MaxFiles - files + 1 {
		if i%api.MaxParts == 0 {
			ref = buy(t, n, 0, 0, 10)
			advance(t, n, n.Now()+10)
		}
		n.Capture(ref, 1, false)
		want := api.OK
		if i == api.MaxFiles-files {
			want = api.ErrFull
		}
		clears(t, n, "", want)
	}
	sound(t, n, total)
}

func TestP51_6Rejects(t *testing.T) {
	s := setup(t)
	s.Tables.Merchant = fees(t, "fee all when 1 = 1: 0%;")
	n, _ := New(s)
	card, _ := n.Card(0, 0)
	refs := make([]string, 2)
	for k := range refs {
		refs[k], _ = n.Purchase(k, acquirer.Purchase{Merchant: "m" + strconv.Itoa(k), Terminal: "t", Card: card, Amount: 500, Currency: "EUR", Category: 1})
	}
	advance(t, n, 10)
	for k, ref := range refs {
		n.Capture(ref, 100*int64(k+1), true)
	}
	clears(t, n, "", api.OK)
	if n.Shop("m0") != 100 || n.Shop("m1") != 200 || n.Balance("acq:acq2") != -4 || positions(n, 0) != "acq2 196 homebank -297 network 3 shopbank 98" {
		t.Error(positions(n, 0))
	}
	r := n.booked[refs[0]+"-1"]
	if r.Issuer != "homebank" || r.Acquirer != "shopbank" || r.Card != card {
		t.Error(r)
	}
	for want, change := range map[api.Errno]func(r *api.Record){api.ErrDuplicate: func(r *api.Record) { r.Id = refs[0] + "-1" }, api.ErrCard: func(r *api.Record) { r.Card = "6000000000000007" }, api.ErrMatch: func(r *api.Record) { r.Auth = "" }, api.ErrState: func(r *api.Record) {}, api.ErrNone: func(r *api.Record) { r.Kind, r.Card = api.RcRefund, "4000000000000077" }, api.OK: func(r *api.Record) { r.Kind = api.RcRefund }} {
		x := r
		x.Id = "x" + strconv.Itoa(int(want))
		change(&x)
		if e := n.process(x); e != want {
			t.Error(want, e)
		}
	}
	sound(t, n, 20500)
}

func TestP51_7P51_16Settle(t *testing.T) {
	n := of(t)
	ref := buy(t, n, 0, 0, 1000)
	advance(t, n, 10)
	n.Capture(ref, 1000, true)
	n.Clear()
	for i, c := range []struct {
		date int
		want api.Errno
	}{{11, api.ErrTime}, {2, api.ErrTime}, {-1, api.ErrTime}, {8, api.ErrState}} {
		if l, e := n.Settle(c.date); l != nil || e != c.want {
			t.Error(i, e)
		}
	}
	l, e := n.Settle(0)
	want := []api.Transfer{{From: "homebank", To: "shopbank", Amount: n.money(980)}, {From: "homebank", To: "network", Amount: n.money(10)}}
	if len(l) != 2 || l[0] != want[0] || l[1] != want[1] || e != api.OK {
		t.Error(l, e)
	}
	if s := events(n); !strings.HasSuffix(s, "; 8@10 homebank shopbank 980EUR; 8@10 homebank network 10EUR") {
		t.Error(s)
	}
	if _, e := n.Settle(0); e != api.ErrClosed {
		t.Error(e)
	}
	n.Refund(ref, 100)
	n.Clear()
	if positions(n, 0) != "homebank -990 network 10 shopbank 980" || positions(n, 1) != "homebank 99 network 1 shopbank -100" {
		t.Error(positions(n, 1))
	}
	if _, e := n.Settle(8); e != api.ErrState {
		t.Error(e)
	}
	if l, e := n.Settle(1); len(l) != 2 || e != api.OK {
		t.Error(l, e)
	}
	sound(t, n, 20500)
}

func items(kinds ...string) []api.Item {
	var l []api.Item
	for _, k := range kinds {
		l = append(l, api.Item{Kind: k, Size: 1})
	}
	return l
}

func TestP51_8Disputes(t *testing.T) {
	n := of(t)
	ref := buy(t, n, 0, 0, 1000)
	advance(t, n, 10)
	n.Capture(ref, 1000, true)
	n.Clear()
	id := ref + "-1"
	for i, c := range []struct {
		id, record, reason string
		amount             int64
		items              []api.Item
		want               api.Errno
	}{
		{"", "x", "", 0, nil, api.ErrNone}, {"abcdefghijklmno", id, "", 0, nil, api.ErrName}, {ref, id, "", 0, nil, api.ErrDuplicate}, {"", id, "", 0, nil, api.ErrName}, {"case", id, "x", 0, nil, api.ErrNone}, {"case", id, "fraud", 1001, nil, api.ErrRange}, {"case", id, "fraud", 600, nil, api.ErrEvidence}, {"case", id, "fraud", 600, items("letter"), api.OK}, {"case", id, "fraud", 600, items("letter"), api.ErrDuplicate}, {"case2", id, "fraud", 401, items("letter"), api.ErrBalance},
	} {
		if e := n.Dispute(c.id, c.record, c.reason, c.amount, c.items); e != c.want {
			t.Error(i, e)
		}
	}
	holder(t, n, 0, 0, 9600, 0)
	if positions(n, 0) != "homebank -390 network 10 shopbank 380" || n.Balance("holder:homebank") != -400 || n.Balance("acq:shopbank") != -610 || n.Shop("m1") != 990 {
		t.Error(positions(n, 0))
	}
	if s := events(n); !strings.HasSuffix(s, "; 9@10 homebank case 600EUR; 5@10 homebank case-1 -600EUR") {
		t.Error(s)
	}
	if e := n.Step("x", 1, nil); e != api.ErrNone {
		t.Error(e)
	}
	if e := n.Step("case", 1, nil); e != api.ErrEvidence {
		t.Error(e)
	}
	if e := n.Step("case", 1, items("receipt")); e != api.OK {
		t.Error(e)
	}
	holder(t, n, 0, 0, 9000, 0)
	if s := events(n); !strings.HasSuffix(s, "; 9@10 homebank case 600EUR; 5@10 homebank case-2 600EUR") {
		t.Error(s)
	}
	n.Step("case", 2, nil)
	if s := events(n); !strings.HasSuffix(s, "case-2 600EUR; 9@10 homebank case 600EUR") {
		t.Error(s)
	}
	advance(t, n, 31*day-1)
	holder(t, n, 0, 0, 9000, 0)
	advance(t, n, 31*day)
	holder(t, n, 0, 0, 9600, 0)
	if s := events(n); !strings.HasSuffix(s, "; 9@2678400 homebank case 600EUR; 5@2678400 homebank case-3 -600EUR") {
		t.Error(s)
	}
	x := n.booked[id]
	for id, want := range map[string]api.Errno{"case-1": api.ErrDuplicate, "case-3": api.ErrDuplicate, "case-4": api.OK, "other-1": api.OK} {
		x.Kind, x.Id = api.RcRefund, id
		if e := n.process(x); e != want {
			t.Error(id, e)
		}
	}
	if e := n.Dispute("other", ref+"-1", "fraud", 1, items("letter")); e != api.ErrDuplicate {
		t.Error(e)
	}
	n.Dispute("lost", ref+"-1", "fraud", 5, items("letter"))
	x.Id = "lost-3"
	if e := n.process(x); e != api.ErrDuplicate {
		t.Error(e)
	}
	n.entries = mostEntries
	if n.Dispute("full", ref+"-1", "", 0, nil) != api.ErrFull || n.Step("x", 0, nil) != api.ErrFull || n.process(api.Record{Id: "full"}) != api.ErrFull {
		t.Error("full ledger")
	}
	n.entries = len(n.ledger.Entries())
	sound(t, n, 20500)
}

func TestP51_10P51_11P51_12Queries(t *testing.T) {
	n := of(t)
	if !n.Quiet() || n.Log() != nil || n.Total() != 20500 {
		t.Error("new network")
	}
	a, b := buy(t, n, 1, 0, 100), buy(t, n, 0, 0, 100)
	if n.Quiet() {
		t.Error("a request is under way")
	}
	advance(t, n, 10)
	l := n.Auths()
	if len(l) != 2 || l[0].Id != b || l[1].Id != a || !n.Quiet() {
		t.Error(l)
	}
	if x, ok := n.Auth(a); !ok || x != l[1] {
		t.Error(x)
	}
	if x, ok := n.Auth("x"); ok || x != (api.Auth{}) {
		t.Error(x)
	}
	if _, ok := n.Sale("x"); ok {
		t.Error("unknown sale")
	}
	if _, _, ok := n.Holder("x"); ok {
		t.Error("unknown card")
	}
	for range api.MaxEvents {
		n.note(api.EvSettled, "a", "b", 1)
	}
	if len(n.Log()) != api.MaxEvents || n.Log()[0].Kind != api.EvApproved {
		t.Error(len(n.Log()))
	}
	for _, none := range []*Net{nil, {}} {
		_, ok := none.Card(0, 0)
		_, e := none.Tokenize("a", api.Domain{})
		_, f := none.Purchase(0, acquirer.Purchase{})
		_, g := none.Clear()
		_, h := none.Settle(0)
		_, sale := none.Sale("a")
		_, _, card := none.Holder("a")
		_, au := none.Auth("a")
		for i, e := range []api.Errno{e, f, g, h, none.Cancel("a"), none.Capture("a", 1, true), none.Refund("a", 1), none.Advance(1), none.Dispute("a", "b", "c", 1, nil), none.Step("a", 1, nil)} {
			if e != api.ErrNone {
				t.Error(i, e)
			}
		}
		if ok || sale || card || au || none.Now() != 0 || none.Currency() != "" || none.Sales() != nil || none.Shop("a") != 0 || none.Balance("a") != 0 || none.Total() != 0 || none.Auths() != nil || none.Positions(0) != nil || none.Quiet() || none.Log() != nil {
			t.Error("missing network")
		}
	}
}

func TestP51StandIn(t *testing.T) {
	n := of(t, api.Fault{Kind: api.FCut, A: 0, B: 1, Until: 100})
	ref, large := buy(t, n, 0, 0, 1000), buy(t, n, 0, 1, 1001)
	advance(t, n, 60)
	state(t, n, ref, 2, 1000)
	state(t, n, large, 3, 0)
	if s := events(n); !strings.HasPrefix(s, "1@32 shopbank "+ref+" 1000EUR; 2@32 shopbank "+large+" 0EUR") {
		t.Error(s)
	}
	if _, ok := n.Auth(ref); ok || n.Quiet() {
		t.Error("the bank was told nothing yet")
	}
	advance(t, n, 300)
	if a, ok := n.Auth(ref); !ok || a.Approved != 1000 || !n.Quiet() {
		t.Error(a)
	}
	if _, ok := n.Auth(large); ok {
		t.Error("a declined purchase")
	}
	sound(t, n, 20500)
}

func TestP51_13P51_14P51_17Faults(t *testing.T) {
	seed := uint64(7)
	next := func(n int) int {
		seed = seed*6364136223846793005 + 1442695040888963407
		return int(seed>>33) % n
	}
	for range 60 {
		var faults []api.Fault
		for range 8 {
			f := api.Fault{Kind: 1 + next(4), A: next(5), From: next(2000)}
			f.B = (f.A + 1 + next(4)) % 5
			f.Until = f.From + next(400)
			if f.Kind == api.FDelay || f.Kind == api.FRepeat {
				f.Extra = next(100)
			}
			faults = append(faults, f)
		}
		n := of(t, faults...)
		for range 60 {
			l := n.Sales()
			if len(l) == 0 {
				buy(t, n, next(2), 0, int64(1+next(600)))
				continue
			}
			s := l[next(len(l))]
			switch next(8) {
			case 0, 1:
				buy(t, n, next(2), 0, int64(1+next(600)))
			case 2:
				n.Cancel(s.Ref)
			case 3:
				n.Capture(s.Ref, int64(1+next(700)), next(2) == 0)
			case 4:
				n.Refund(s.Ref, int64(1+next(300)))
			case 5:
				n.Clear()
			case 6:
				n.Dispute("d"+strconv.Itoa(next(9)), s.Ref+"-1", "fraud", int64(1+next(300)), items("letter"))
			case 7:
				n.Step("d"+strconv.Itoa(next(9)), 1+next(6), items("receipt"))
			}
			advance(t, n, n.Now()+next(60))
			sound(t, n, 20500)
		}
		advance(t, n, n.Now()+3*day)
		if !n.Quiet() {
			t.Error("not quiet")
		}
		sound(t, n, 20500)
		advance(t, n, n.Now()+90*day)
		sound(t, n, 20500)
	}
}
