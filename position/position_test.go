package position

import (
	"math"
	"strconv"
	"strings"
	"testing"

	"cardnet/api"
)

func of(t *testing.T, parties ...string) *Book {
	t.Helper()
	b, e := New(parties)
	if e != api.OK {
		t.Fatal(e)
	}
	return b
}

func m(n int64, currency string) api.Money { return api.Money{Amount: n, Currency: currency} }

func show(l []api.Position) string {
	s := ""
	for _, p := range l {
		s += p.Party + " " + strconv.FormatInt(p.Net.Amount, 10) + " " + p.Net.Currency + ", "
	}
	return strings.TrimSuffix(s, ", ")
}

func TestP40_1New(t *testing.T) {
	var many []string
	for i := range 17 {
		many = append(many, "p"+strconv.Itoa(i))
	}
	for i, c := range []struct {
		l    []string
		want api.Errno
	}{{nil, api.OK}, {many, api.ErrLong}, {many[:16], api.OK}, {[]string{"a", "a-b", "a"}, api.ErrName}, {[]string{"a", "b", "a"}, api.ErrExists}} {
		if b, e := New(c.l); e != c.want || (b == nil) != (e != api.OK) {
			t.Error(i, e)
		}
	}
}

func TestP40_2P40_3P40_7Move(t *testing.T) {
	b := of(t, "c", "a", "b")
	for i, c := range []struct {
		from, to string
		m        api.Money
		want     api.Errno
	}{
		{"a", "x", m(-1, ""), api.ErrNone}, {"x", "x", m(-1, ""), api.ErrNone}, {"a", "a", m(-1, ""), api.ErrRange}, {"a", "b", m(-1, ""), api.ErrCurrency}, {"a", "b", m(-1, "EUR"), api.ErrRange}, {"a", "b", m(1<<53, "EUR"), api.ErrRange}, {"a", "b", m(100, "EUR"), api.OK}, {"b", "c", m(30, "EUR"), api.OK}, {"a", "b", m(0, "USD"), api.OK},
		{"c", "b", m(1<<52, "CHF"), api.OK}, {"c", "a", m(1, "CHF"), api.ErrRange}, {"a", "b", m(1, "CHF"), api.ErrRange}, {"b", "c", m(1<<52, "CHF"), api.OK},
	} {
		if e := b.Move(c.from, c.to, c.m); e != c.want {
			t.Error(i, e)
		}
	}
	if s := show(b.List()); s != "a -100 EUR, b 70 EUR, c 30 EUR" || strings.Join(b.Currencies(), " ") != "EUR" {
		t.Error(s)
	}
	if b.Net("a", "EUR") != -100 || b.Net("x", "EUR") != 0 || b.Net("a", "CHF") != 0 {
		t.Error("Net")
	}
	b.Move("c", "a", m(7, "AUD"))
	if s := show(b.List()); s != "a 7 AUD, c -7 AUD, a -100 EUR, b 70 EUR, c 30 EUR" || strings.Join(b.Currencies(), " ") != "AUD EUR" {
		t.Error(s)
	}
	other := of(t, "a", "b", "c")
	other.Move("b", "c", m(30, "EUR"))
	other.Move("c", "a", m(7, "AUD"))
	other.Move("a", "b", m(100, "EUR"))
	if show(other.List()) != show(b.List()) {
		t.Error(show(other.List()))
	}
}

func converts(t *testing.T, b *Book, l []api.Rate, to, pivot, want string, we api.Errno) {
	t.Helper()
	p, e := b.Convert(l, to, pivot)
	if s := show(p); s != want || e != we || Sum(p, to) != 0 {
		t.Error(s, e, want)
	}
}

func TestP40_4P40_6Convert(t *testing.T) {
	b := of(t, "a", "b", "c", "d")
	rates := []api.Rate{{From: "EUR", To: "USD", Num: 11, Den: 10}, {From: "CHF", To: "EUR", Num: 1, Den: 1}, {From: "JPY", To: "EUR", Num: 1 << 40, Den: 1}}
	converts(t, b, rates, "usd", "", "", api.ErrCurrency)
	converts(t, b, rates, "USD", "", "", api.OK)
	b.Move("a", "b", m(100, "EUR"))
	b.Move("b", "c", m(30, "EUR"))
	converts(t, b, rates, "USD", "", "a -110 USD, b 77 USD, c 33 USD", api.OK)
	converts(t, b, rates, "EUR", "", "a -100 EUR, b 70 EUR, c 30 EUR", api.OK)
	converts(t, b, rates, "GBP", "CHF", "", api.ErrNone)
	b.Move("c", "a", m(1, "CHF"))
	b.Move("c", "d", m(9, "USD"))
	converts(t, b, rates, "USD", "EUR", "a -109 USD, b 77 USD, c 23 USD, d 9 USD", api.OK)
	equal := of(t, "a", "b", "c", "d")
	for _, p := range []string{"b", "c", "d"} {
		equal.Move("a", p, m(10, "EUR"))
	}
	equal.Move("b", "a", m(0, "EUR"))
	converts(t, equal, []api.Rate{{From: "EUR", To: "USD", Num: 1, Den: 3}}, "USD", "", "a -10 USD, b 4 USD, c 3 USD, d 3 USD", api.OK)
	half := of(t, "a", "b")
	half.Move("a", "b", m(5, "EUR"))
	converts(t, half, []api.Rate{{From: "EUR", To: "USD", Num: 1, Den: 2}}, "USD", "", "a -2 USD, b 2 USD", api.OK)
	half.Move("a", "b", m(1<<40, "EUR"))
	converts(t, half, []api.Rate{{From: "EUR", To: "USD", Num: 1, Den: 2}}, "USD", "", "", api.ErrRange)
	converts(t, half, []api.Rate{{From: "EUR", To: "USD", Num: 1 << 40, Den: 1}}, "USD", "", "", api.ErrRange)
	big := of(t, "a", "b")
	for _, c := range []string{"AAA", "BBB"} {
		big.Move("a", "b", m(1<<40, c))
	}
	same := []api.Rate{{From: "AAA", To: "USD", Num: 1 << 12, Den: 1}, {From: "BBB", To: "USD", Num: 1 << 12, Den: 1}}
	converts(t, big, same, "USD", "", "", api.ErrRange)
	big.Move("b", "a", m(1, "BBB"))
	big.Move("b", "a", m(1<<40, "AAA"))
	converts(t, big, same, "USD", "", "a -4503599627366400 USD, b 4503599627366400 USD", api.OK)
	if s := show(b.List()); !strings.HasPrefix(s, "a 1 CHF, c -1 CHF, a -100 EUR") {
		t.Error(s)
	}
}

func TestP40_5Sum(t *testing.T) {
	of := func(amounts ...int64) []api.Position {
		l := []api.Position{{Net: m(99, "USD")}}
		for _, n := range amounts {
			l = append(l, api.Position{Net: m(n, "EUR")})
		}
		return l
	}
	for i, c := range []struct {
		l    []api.Position
		want int64
	}{
		{nil, 0}, {of(5, -8), -3}, {of(1 << 62), 1 << 62}, {of(1<<62, 1), 1 << 62}, {of(-1 << 62), -1 << 62}, {of(-1<<62, -1), -1 << 62}, {of(math.MaxInt64, math.MaxInt64, math.MinInt64, math.MinInt64, 7), 5}, {of(math.MinInt64, 5), -1 << 62}, {of(1<<62, 1<<62, -1<<62, -1), 1<<62 - 1}, {of(-1<<62, 1), -1<<62 + 1}, {of(-1), -1}, {of(1<<62 - 1), 1<<62 - 1},
	} {
		if n := Sum(c.l, "EUR"); n != c.want {
			t.Error(i, n)
		}
	}
	for _, none := range []*Book{nil, {}} {
		if none.Move("a", "b", m(1, "EUR")) != api.ErrNone || none.Net("a", "EUR") != 0 || none.List() != nil || none.Currencies() != nil {
			t.Error("missing book")
		}
	}
	converts(t, nil, nil, "EUR", "", "", api.ErrNone)
}
