package rate

import (
	"math/big"
	"testing"

	"cardnet/api"
)

func of(from, to string, num, den int64) api.Rate {
	return api.Rate{From: from, To: to, Num: num, Den: den}
}

func TestP2_1Check(t *testing.T) {
	for r, want := range map[api.Rate]api.Errno{
		of("USD", "EUR", 1, 1): api.OK, of("USD", "EUR", 1<<40, 1<<40): api.OK, of("USD", "USD", 1, 1): api.ErrCurrency, of("USD", "eur", 0, 1): api.ErrCurrency, of("", "EUR", 1, 1): api.ErrCurrency,
		of("USD", "EUR", 0, 1): api.ErrRange, of("USD", "EUR", 1, 0): api.ErrRange, of("USD", "EUR", 1<<40+1, 1): api.ErrRange, of("USD", "EUR", 1, 1<<40+1): api.ErrRange, of("USD", "EUR", -1, 1): api.ErrRange,
	} {
		if e := Check(r); e != want {
			t.Error(r, e)
		}
	}
}

func TestP2_2Reduce(t *testing.T) {
	for in, want := range map[[2]int64][2]int64{{6, 4}: {3, 2}, {7, 5}: {7, 5}, {0, 4}: {0, 4}, {4, -2}: {4, -2}, {-6, -4}: {-6, -4}, {1 << 62, 1 << 61}: {2, 1}, {5, 5}: {1, 1}} {
		if a, b := Reduce(in[0], in[1]); a != want[0] || b != want[1] {
			t.Error(in, a, b)
		}
	}
}

func TestP2_3Convert(t *testing.T) {
	usd := func(n int64) api.Money { return api.Money{Amount: n, Currency: "USD"} }
	jpy := of("USD", "JPY", 3021, 20)
	if m, e := Convert(usd(1000), jpy, api.HalfEven); m != (api.Money{Amount: 151050, Currency: "JPY"}) || e != api.OK {
		t.Error(m, e)
	}
	for i, c := range []struct {
		m    api.Money
		r    api.Rate
		mode int
		e    api.Errno
	}{
		{api.Money{Currency: "x"}, of("USD", "USD", 1, 1), 1, api.ErrCurrency}, {usd(1 << 53), api.Rate{}, 1, api.ErrRange}, {usd(1), of("USD", "EUR", 0, 1), 9, api.ErrRange},
		{usd(1), of("EUR", "USD", 1, 1), 9, api.ErrCurrency}, {usd(1), jpy, 0, api.ErrRange}, {usd(1 << 52), jpy, 1, api.ErrRange},
	} {
		if m, e := Convert(c.m, c.r, c.mode); e != c.e || m != (api.Money{}) {
			t.Error(i, m, e)
		}
	}
}

func TestP2_4Derived(t *testing.T) {
	jpy := of("USD", "JPY", 6042, 40)
	if r, e := Inverse(jpy); r != of("JPY", "USD", 20, 3021) || e != api.OK {
		t.Error(r, e)
	}
	if r, e := Cross(of("USD", "EUR", 9, 10), of("EUR", "GBP", 5, 6)); r != of("USD", "GBP", 3, 4) || e != api.OK {
		t.Error(r, e)
	}
	if r, e := Cross(of("USD", "EUR", 1<<40, 3), of("EUR", "GBP", 3, 1<<40)); r != of("USD", "GBP", 1, 1) || e != api.OK {
		t.Error(r, e)
	}
	if r, e := Cross(of("USD", "EUR", 1<<20, 1), of("EUR", "GBP", 1<<20, 1<<10)); r != of("USD", "GBP", 1<<30, 1) || e != api.OK {
		t.Error(r, e)
	}
	if r, e := Cross(of("USD", "EUR", 1<<20, 1), of("EUR", "GBP", 1<<20, 3)); r != of("USD", "GBP", 1<<40, 3) || e != api.OK {
		t.Error(r, e)
	}
	if r, e := Markup(of("USD", "EUR", 9, 10), 100); r != of("USD", "EUR", 909, 1000) || e != api.OK {
		t.Error(r, e)
	}
	if r, e := Markup(of("USD", "EUR", 1, 1), -9999); r != of("USD", "EUR", 1, 10000) || e != api.OK {
		t.Error(r, e)
	}
	if r, e := Markup(of("USD", "EUR", 1, 1), 100000); r != of("USD", "EUR", 11, 1) || e != api.OK {
		t.Error(r, e)
	}
	for i, c := range []struct {
		a, b api.Rate
		e    api.Errno
	}{
		{of("USD", "EUR", 0, 1), api.Rate{}, api.ErrRange}, {of("USD", "EUR", 1, 1), api.Rate{}, api.ErrCurrency}, {of("USD", "EUR", 1, 1), of("GBP", "JPY", 1, 1), api.ErrCurrency},
		{of("USD", "EUR", 1, 1), of("EUR", "USD", 1, 1), api.ErrCurrency}, {of("USD", "EUR", 1<<40, 1), of("EUR", "GBP", 1<<40, 1), api.ErrRange}, {of("USD", "EUR", 1, 1<<21), of("EUR", "GBP", 1, 1<<20), api.ErrRange},
	} {
		if r, e := Cross(c.a, c.b); r != (api.Rate{}) || e != c.e {
			t.Error(i, r, e)
		}
	}
	for bps, r := range map[int]api.Rate{-10000: of("USD", "EUR", 1, 1), 100001: of("USD", "EUR", 1, 1), 1: of("USD", "EUR", 1, 1<<40), 100: of("USD", "EUR", 1<<40, 1)} {
		if x, e := Markup(r, bps); x != (api.Rate{}) || e != api.ErrRange {
			t.Error(bps, x, e)
		}
	}
	if _, e := Markup(api.Rate{}, -10000); e != api.ErrCurrency {
		t.Error(e)
	}
	if _, e := Inverse(api.Rate{}); e != api.ErrCurrency {
		t.Error(e)
	}
}

func TestP2_5Find(t *testing.T) {
	l := []api.Rate{of("USD", "EUR", 0, 1), of("EUR", "USD", 10, 9), of("EUR", "GBP", 5, 6), of("EUR", "GBP", 1, 1), of("GBP", "CHF", 2, 4), of("CHF", "GBP", 3, 1), of("JPY", "EUR", 1<<40, 1), of("EUR", "ISK", 1, 1<<40), of("EUR", "AAA", 1<<40, 1)}
	for i, c := range []struct {
		from, to, pivot string
		want            api.Rate
		e               api.Errno
	}{
		{"USD", "EUR", "", of("USD", "EUR", 9, 10), api.OK}, {"EUR", "GBP", "USD", of("EUR", "GBP", 5, 6), api.OK}, {"USD", "GBP", "EUR", of("USD", "GBP", 3, 4), api.OK},
		{"GBP", "CHF", "", of("GBP", "CHF", 2, 4), api.OK}, {"CHF", "GBP", "", of("CHF", "GBP", 3, 1), api.OK},
		{"USD", "USD", "EUR", api.Rate{}, api.ErrCurrency}, {"USD", "GBP", "JPY", api.Rate{}, api.ErrNone}, {"USD", "XXX", "EUR", api.Rate{}, api.ErrNone}, {"x", "y", "z", api.Rate{}, api.ErrNone},
		{"USD", "GBP", "USD", api.Rate{}, api.ErrNone}, {"JPY", "AAA", "EUR", api.Rate{}, api.ErrRange},
	} {
		if r, e := Find(l, c.from, c.to, c.pivot); r != c.want || e != c.e {
			t.Error(i, r, e)
		}
	}
}

func TestP2_6P2_9Text(t *testing.T) {
	for s, want := range map[string]api.Rate{"EUR/USD 11/10": of("EUR", "USD", 11, 10), "EUR/USD 1099511627776/1": of("EUR", "USD", 1<<40, 1)} {
		if r, e := Parse(s); r != want || e != api.OK || Format(want) != s {
			t.Error(s, r, e, Format(want))
		}
	}
	for s, want := range map[string]api.Errno{
		"": api.ErrShort, "EUR": api.ErrFormat, "EUR/USD": api.ErrFormat, "EUR/USD ": api.ErrFormat, "EUR/USD 1": api.ErrFormat, "EUR/USD 1/": api.ErrFormat, "EUR/USD 01/1": api.ErrFormat, "EUR/USD 1/1/1": api.ErrFormat,
		"EUR/USD  1/1": api.ErrFormat, "EURO/USD 1/1": api.ErrFormat, "EUR/USD 1/1 ": api.ErrFormat, "EUR/USD 9223372036854775808/1": api.ErrFormat, "EUR-USD 1/1": api.ErrFormat,
		"EUR/EUR 0/1": api.ErrCurrency, "EUR/usd 1/1": api.ErrCurrency, "EUR/USD -1/1": api.ErrRange, "EUR/USD 1/0": api.ErrRange,
	} {
		if r, e := Parse(s); r != (api.Rate{}) || e != want {
			t.Error(s, r, e)
		}
	}
	if Format(api.Rate{}) != "" || Format(of("EUR", "USD", 1, 0)) != "" {
		t.Error("Format of rates that are not valid")
	}
}

func TestP2_7P2_8Consequences(t *testing.T) {
	for _, n := range []int64{1, -1, 999, -1001, 123456789, 1 << 40} {
		for _, r := range []api.Rate{of("USD", "EUR", 9, 10), of("USD", "EUR", 1, 3), of("USD", "EUR", 355, 113)} {
			for mode := api.Down; mode <= api.HalfEven; mode++ {
				m, e := Convert(api.Money{Amount: n, Currency: "USD"}, r, mode)
				d := new(big.Int).Mul(big.NewInt(m.Amount), big.NewInt(r.Den))
				d.Sub(d, new(big.Int).Mul(big.NewInt(n), big.NewInt(r.Num)))
				d.Abs(d).Mul(d, big.NewInt(2))
				if e != api.OK || d.Cmp(big.NewInt(2*r.Den)) >= 0 || mode >= api.HalfUp && d.Cmp(big.NewInt(r.Den)) > 0 {
					t.Error(n, r, mode, m, e)
				}
			}
			back, _ := Inverse(r)
			if again, e := Inverse(back); again != r || e != api.OK {
				t.Error(r, again, e)
			}
			m, _ := Convert(api.Money{Amount: n * r.Den, Currency: "USD"}, r, api.Down)
			if x, e := Convert(m, back, api.Down); x.Amount != n*r.Den || e != api.OK {
				t.Error(n, r, x, e)
			}
		}
	}
}
