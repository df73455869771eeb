package ledger

import (
	"strconv"
	"strings"
	"testing"

	"cardnet/api"
	"cardnet/checksum"
)

func of(t *testing.T, accounts ...string) *Ledger {
	t.Helper()
	l, e := New(accounts)
	if e != api.OK {
		t.Fatal(e)
	}
	return l
}

// entry builds an entry from accounts and amounts, in EUR unless an account is followed by another currency after a space.
func entry(id string, date int, l ...any) api.Entry {
	e := api.Entry{Id: id, Date: date}
	for i := 0; i < len(l); i += 2 {
		account, currency, found := strings.Cut(l[i].(string), " ")
		if !found {
			currency = "EUR"
		}
		e.Postings = append(e.Postings, api.Posting{Account: account, Amount: api.Money{Amount: int64(l[i+1].(int)), Currency: currency}})
	}
	return e
}

func show(l []api.Posting) string {
	s := ""
	for _, p := range l {
		s += p.Account + strconv.FormatInt(p.Amount.Amount, 10) + p.Amount.Currency + " "
	}
	return strings.TrimSpace(s)
}

func TestP43_1New(t *testing.T) {
	var many []string
	for i := range 513 {
		many = append(many, "a:"+strconv.Itoa(i))
	}
	for i, c := range []struct {
		l    []string
		want api.Errno
	}{{nil, api.OK}, {many, api.ErrLong}, {many[:512], api.OK}, {[]string{"a", "b c", "a"}, api.ErrName}, {[]string{""}, api.ErrName}, {[]string{strings.Repeat("a", 41)}, api.ErrName}, {[]string{strings.Repeat(":", 40), "-_"}, api.OK}, {[]string{"a", "b", "a"}, api.ErrExists}} {
		if l, e := New(c.l); e != c.want || (l == nil) != (e != api.OK) {
			t.Error(i, e)
		}
	}
}

func TestP43_2Post(t *testing.T) {
	l := of(t, "a", "b", "c")
	most := 1 << 52
	for i, c := range []struct {
		e    api.Entry
		want api.Errno
	}{
		{entry("e1", 20, "a", -5, "b", 5), api.OK}, {entry("a b", -1), api.ErrName}, {entry("e1", -1), api.ErrTime}, {entry("e1", api.MaxDate+1), api.ErrTime}, {entry("e1", 20), api.ErrExists}, {entry("e2", 20), api.ErrRange}, {entry("e2", 20, "a", 0, "a", 0, "a", 0, "a", 0, "a", 0, "a", 0, "a", 0, "a", 0, "a", 0, "a", 0, "a", 0, "a", 0, "a", 0, "a", 0, "a", 0, "a", 0, "a", 0), api.ErrRange},
		{entry("e2", 20, "a", 1<<53, "x", 1), api.ErrRange}, {entry("e2", 20, "x", 1<<53, "a", 1), api.ErrNone}, {entry("e2", 20, "a eur", 1, "a", 1), api.ErrCurrency}, {entry("e2", 20, "a", -5, "b USD", 5), api.ErrBalance}, {entry("e2", 20, "a", most, "b", -most, "c", 1), api.ErrBalance}, {entry("e2", 20, "b", most, "a", -most), api.ErrRange}, {entry("e2", 20, "b", most, "a", -most, "b", -5, "a", 5), api.OK},
		{entry("e3", 20, "a", 0), api.OK}, {entry("e4", 20, "a", 3, "a", -3, "c USD", 4, "b USD", -4), api.OK}, {entry("e5", 20, "b", 1, "c", -1), api.ErrRange},
	} {
		if e := l.Post(c.e); e != c.want {
			t.Error(i, e)
		}
	}
	if l.Balance("b", "EUR") != int64(most) || l.Balance("c", "USD") != 4 || l.Balance("x", "EUR") != 0 || l.Balance("a", "CHF") != 0 {
		t.Error("balances")
	}
	for i := len(l.Entries()); i < api.MaxEntries; i++ {
		l.Post(entry("n"+strconv.Itoa(i), 1, "a", 0))
	}
	if l.Post(entry("more", 1, "a", 0)) != api.ErrFull || l.Post(entry("more", 1, "b", 1, "a", -1)) != api.ErrRange || l.Reverse("e1", "more", 1) != api.ErrFull || l.Post(entry("e1", 1)) != api.ErrExists {
		t.Error("full ledger")
	}
}

func TestP43_3P43_8Reverse(t *testing.T) {
	l := of(t, "a", "b")
	e := entry("e1", 20, "a", -5, "b", 5)
	l.Post(e)
	e.Postings[0].Account = "changed"
	if show(l.Trial("EUR")) != "a-5EUR b5EUR" {
		t.Error(show(l.Trial("EUR")))
	}
	for i, e := range []api.Errno{l.Reverse("x", "", -1), l.Reverse("e1", "", -1), l.Reverse("e1", "e2", -1), l.Reverse("e1", "e1", 21), l.Reverse("e1", "e2", 21), l.Reverse("e1", "e3", 21), l.Reverse("e2", "e3", 21)} {
		if e != []api.Errno{api.ErrNone, api.ErrName, api.ErrTime, api.ErrExists, api.OK, api.ErrState, api.ErrState}[i] {
			t.Error(i, e)
		}
	}
	if x, ok := l.Entry("e2"); !ok || x.Date != 21 || show(x.Postings) != "a5EUR b-5EUR" || l.Trial("EUR") != nil {
		t.Error(x)
	}
	if x, _ := l.Entry("e1"); show(x.Postings) != "a-5EUR b5EUR" {
		t.Error(x)
	}
}

func TestP43_4P43_5P43_7Queries(t *testing.T) {
	l := of(t, "b", "a", "c")
	l.Post(entry("e2", 20, "b", 5, "a", -7, "b", 2))
	l.Post(entry("e1", 20, "c USD", 5, "b USD", -5, "b", 1, "c", -1))
	entries := l.Entries()
	if len(entries) != 2 || entries[0].Id != "e2" {
		t.Error(entries)
	}
	entries[0].Postings[0].Account = "x"
	x, _ := l.Entry("e2")
	x.Postings[1].Account = "x"
	if s := show(l.Statement("b")); s != "b5EUR b2EUR b-5USD b1EUR" || l.Statement("x") != nil {
		t.Error(s)
	}
	if s := show(l.Trial("EUR")); s != "a-7EUR b8EUR c-1EUR" || l.Trial("CHF") != nil {
		t.Error(s)
	}
	if e, ok := l.Entry("x"); ok || e.Id != "" {
		t.Error(e)
	}
	sum := int64(0)
	for _, p := range l.Trial("EUR") {
		sum += p.Amount.Amount
	}
	if sum != 0 {
		t.Error(sum)
	}
	for _, none := range []*Ledger{nil, {}} {
		_, ok := none.Entry("a")
		if none.Post(entry("a", 1, "a", 0)) != api.ErrNone || none.Reverse("a", "b", 1) != api.ErrNone || none.Balance("a", "EUR") != 0 || ok || none.Entries() != nil || none.Trial("EUR") != nil || none.Statement("a") != nil || none.Digest() != 0 {
			t.Error("missing ledger")
		}
	}
}

func TestP43_6P43_9Digest(t *testing.T) {
	l := of(t, "a", "b")
	if l.Digest() != 0 {
		t.Error(l.Digest())
	}
	l.Post(entry("e1", 20, "a", -5, "b", 5))
	h := checksum.Chain(0, "e1|20|a/-5/EUR|b/5/EUR")
	if l.Digest() != h {
		t.Error(l.Digest())
	}
	l.Post(entry("e1", 20, "a", -5, "b", 5))
	l.Reverse("e1", "e2", 21)
	if l.Digest() != checksum.Chain(h, "e2|21|a/5/EUR|b/-5/EUR") {
		t.Error(l.Digest())
	}
}
