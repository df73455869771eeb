package money

import (
	"math/big"
	"strings"
	"testing"

	"cardnet/api"
)

func eur(n int64) api.Money { return api.Money{Amount: n, Currency: "EUR"} }

func TestP1_1Check(t *testing.T) {
	for m, want := range map[api.Money]api.Errno{
		eur(0): api.OK, eur(1 << 52): api.OK, eur(-1 << 52): api.OK, eur(1<<52 + 1): api.ErrRange, eur(-1<<52 - 1): api.ErrRange, eur(-1 << 63): api.ErrRange,
		{Amount: 1 << 60, Currency: "EU"}: api.ErrCurrency, {Currency: "EURO"}: api.ErrCurrency, {Currency: "eur"}: api.ErrCurrency, {Currency: "EU1"}: api.ErrCurrency, {}: api.ErrCurrency,
	} {
		if e := Check(m); e != want {
			t.Error(m, e)
		}
	}
}

func TestP1_2AddSub(t *testing.T) {
	for i, c := range []struct {
		a, b     api.Money
		sum, sub int64
		e, f     api.Errno
	}{
		{eur(5), eur(-7), -2, 12, api.OK, api.OK},
		{eur(1 << 52), eur(1), 0, 1<<52 - 1, api.ErrRange, api.OK},
		{eur(-1 << 52), eur(1), -1<<52 + 1, 0, api.OK, api.ErrRange},
		{eur(1), api.Money{Currency: "USD"}, 0, 0, api.ErrCurrency, api.ErrCurrency},
		{eur(1 << 53), api.Money{Currency: "x"}, 0, 0, api.ErrRange, api.ErrRange},
		{eur(1), api.Money{Amount: 1 << 53, Currency: "USD"}, 0, 0, api.ErrRange, api.ErrRange},
	} {
		x, e := Add(c.a, c.b)
		y, f := Sub(c.a, c.b)
		if x.Amount != c.sum || y.Amount != c.sub || e != c.e || f != c.f {
			t.Error(i, x, y, e, f)
		}
		if e != api.OK && x != (api.Money{}) || e == api.OK && x.Currency != "EUR" {
			t.Error(i, x)
		}
	}
}

func TestP1_3Cmp(t *testing.T) {
	for i, c := range []struct {
		a, b api.Money
		n    int
		e    api.Errno
	}{
		{eur(1), eur(2), -1, api.OK}, {eur(2), eur(2), 0, api.OK}, {eur(3), eur(-2), 1, api.OK},
		{eur(3), api.Money{Currency: "USD"}, 0, api.ErrCurrency}, {eur(1 << 53), eur(0), 0, api.ErrRange},
	} {
		if n, e := Cmp(c.a, c.b); n != c.n || e != c.e {
			t.Error(i, n, e)
		}
	}
}

func exactScale(n, num, den int64, mode int) *big.Int {
	p := new(big.Int).Mul(big.NewInt(n), big.NewInt(num))
	q, r := new(big.Int).QuoRem(p, big.NewInt(den), new(big.Int))
	twice := new(big.Int).Mul(r.Abs(r), big.NewInt(2)).Cmp(big.NewInt(den))
	up := mode == api.Up && r.Sign() != 0 || mode == api.HalfUp && twice >= 0 || mode == api.HalfEven && (twice > 0 || twice == 0 && q.Bit(0) == 1)
	if up {
		q.Add(q, big.NewInt(int64(p.Sign())))
	}
	return q
}

func TestP1_4Scale(t *testing.T) {
	numbers := []int64{0, 1, -1, 7, -1001, 1001, 999999999999, 1 << 52, -1 << 52, 123456789012345}
	factors := []int64{0, 1, -1, 2, 3, -5, 1 << 40, -1 << 40, 1099511627775, 97}
	for _, n := range numbers {
		for _, num := range factors {
			for _, den := range []int64{1, 2, 3, 7, 1 << 40, 1000} {
				for mode := api.Down; mode <= api.HalfEven; mode++ {
					want := exactScale(n, num, den, mode)
					x, e := Scale(eur(n), num, den, mode)
					if new(big.Int).Abs(want).Cmp(big.NewInt(1<<52)) > 0 {
						if e != api.ErrRange || x != (api.Money{}) {
							t.Error(n, num, den, mode, x, e)
						}
					} else if e != api.OK || x != eur(want.Int64()) {
						t.Error(n, num, den, mode, x, e, want)
					}
				}
			}
		}
	}
	for _, c := range [][3]int64{{1, 0, 1}, {1, -1, 1}, {1, 1<<40 + 1, 1}, {1<<40 + 1, 1, 1}, {-1<<40 - 1, 1, 1}, {1, 1, 0}, {1, 1, 5}} {
		if _, e := Scale(eur(1), c[0], c[1], int(c[2])); e != api.ErrRange {
			t.Error(c, e)
		}
	}
	if _, e := Scale(api.Money{Currency: "x"}, 0, 0, 0); e != api.ErrCurrency {
		t.Error(e)
	}
}

func TestP1_5P1_10Split(t *testing.T) {
	for _, c := range []struct{ n, want []int64 }{
		{[]int64{100, 1, 1, 1}, []int64{34, 33, 33}}, {[]int64{5, 1, 0, 2}, []int64{2, 0, 3}}, {[]int64{-5, 1, 0, 2}, []int64{-2, 0, -3}},
		{[]int64{7, 1, 1, 3}, []int64{2, 1, 4}}, {[]int64{2, 1, 1, 1}, []int64{1, 1, 0}},
	} {
		l, e := Split(eur(c.n[0]), c.n[1:])
		for i := range l {
			if l[i] != eur(c.want[i]) || e != api.OK {
				t.Error(c.n, l, e)
			}
		}
	}
	weights := []int64{3, 0, 1 << 40, 1, 1<<40 - 1, 17}
	for _, n := range []int64{1 << 52, -1 << 52, 1, 0, 999999999999, -77} {
		l, e := Split(eur(n), weights)
		if sum, f := Sum("EUR", l); sum != eur(n) || e != api.OK || f != api.OK || l[1].Amount != 0 {
			t.Error(n, l, e, f)
		}
		whole := big.NewInt(1<<41 - 1 + 21)
		for i, x := range l {
			share := new(big.Int).Mul(big.NewInt(n), big.NewInt(weights[i]))
			diff := new(big.Int).Sub(share, new(big.Int).Mul(big.NewInt(x.Amount), whole))
			if diff.Abs(diff).Cmp(whole) >= 0 {
				t.Error(n, i, x)
			}
		}
	}
	for i, w := range [][]int64{nil, {0}, {-1, 2}, {1<<40 + 1}, slicesOf(1, 65)} {
		if l, e := Split(eur(1), w); e != api.ErrRange || l != nil {
			t.Error(i, l, e)
		}
	}
	if l, e := Split(eur(64), slicesOf(1, 64)); e != api.OK || len(l) != 64 {
		t.Error(e)
	}
	if _, e := Split(eur(1<<53), nil); e != api.ErrRange {
		t.Error(e)
	}
	if _, e := Split(api.Money{}, nil); e != api.ErrCurrency {
		t.Error(e)
	}
}

func slicesOf(n int64, length int) []int64 {
	l := make([]int64, length)
	for i := range l {
		l[i] = n
	}
	return l
}

func TestP1_6Sum(t *testing.T) {
	for i, c := range []struct {
		currency string
		l        []api.Money
		want     api.Money
		e        api.Errno
	}{
		{"EUR", nil, eur(0), api.OK}, {"EUR", []api.Money{eur(3), eur(-5)}, eur(-2), api.OK},
		{"EUR", []api.Money{eur(1 << 52), eur(1), eur(-1)}, api.Money{}, api.ErrRange},
		{"EUR", []api.Money{eur(1 << 52), {Currency: "USD"}, eur(1)}, api.Money{}, api.ErrCurrency},
		{"eur", nil, api.Money{}, api.ErrCurrency},
	} {
		if m, e := Sum(c.currency, c.l); m != c.want || e != c.e {
			t.Error(i, m, e)
		}
	}
}

func TestP1_7Exponent(t *testing.T) {
	for c, want := range map[string]int{"JPY": 0, "KRW": 0, "VND": 0, "CLP": 0, "ISK": 0, "BHD": 3, "KWD": 3, "JOD": 3, "OMR": 3, "TND": 3, "EUR": 2, "AAA": 2} {
		if n, ok := Exponent(c); n != want || !ok {
			t.Error(c, n, ok)
		}
	}
	for _, c := range []string{"", "jpy", "JPYX", "JP"} {
		if n, ok := Exponent(c); n != 0 || ok {
			t.Error(c, n, ok)
		}
	}
}

func TestP1_8P1_9P1_11Text(t *testing.T) {
	for s, m := range map[string]api.Money{
		"-12.34 USD": {Amount: -1234, Currency: "USD"}, "0.00 EUR": eur(0), "-0.01 EUR": eur(-1), "0 JPY": {Currency: "JPY"}, "-5 JPY": {Amount: -5, Currency: "JPY"},
		"0.001 BHD": {Amount: 1, Currency: "BHD"}, "12.345 BHD": {Amount: 12345, Currency: "BHD"}, "-45035996273704.96 EUR": eur(-1 << 52), "10.00 EUR": eur(1000),
	} {
		if f := Format(m); f != s {
			t.Error(f, s)
		}
		if x, e := Parse(s); x != m || e != api.OK {
			t.Error(s, x, e)
		}
	}
	for s, want := range map[string]api.Errno{
		"": api.ErrShort, " EUR": api.ErrFormat, "EUR": api.ErrFormat, "- EUR": api.ErrFormat, "1.00 EU": api.ErrFormat, "1.00 eur": api.ErrFormat, "1.00 EU1": api.ErrFormat, "1 JP": api.ErrFormat, " JPY": api.ErrFormat, "-1 JPYX": api.ErrFormat, "00.10 EUR": api.ErrFormat, ".10 EUR": api.ErrFormat, "-0.00 EUR": api.ErrFormat,
		"-0 JPY": api.ErrFormat, "1. EUR": api.ErrFormat, "1.0 EUR": api.ErrFormat, "1.000 EUR": api.ErrFormat, "1,00 EUR": api.ErrFormat, "1.00  EUR": api.ErrFormat, "1.a0 EUR": api.ErrFormat, "1 EUR": api.ErrFormat,
		"--1.00 EUR": api.ErrFormat, "00 JPY": api.ErrFormat, "1.00 EUR ": api.ErrFormat,
		"45035996273704.97 EUR": api.ErrRange, strings.Repeat("9", 5000) + " JPY": api.ErrRange, "-" + strings.Repeat("9", 5000) + ".00 EUR": api.ErrRange,
	} {
		if x, e := Parse(s); x != (api.Money{}) || e != want {
			t.Error(s, x, e)
		}
	}
	if Format(eur(1<<52+1)) != "" || Format(api.Money{Currency: "eur"}) != "" {
		t.Error("Format of amounts that are not valid")
	}
	for n := int64(-1500); n < 1500; n += 7 {
		for _, c := range []string{"EUR", "JPY", "KWD"} {
			m := api.Money{Amount: n, Currency: c}
			if x, e := Parse(Format(m)); x != m || e != api.OK {
				t.Error(m, x, e)
			}
		}
	}
}

func TestP1_12Arithmetic(t *testing.T) {
	l := []int64{0, 1, -1, 99, -500, 1 << 51, -1 << 51}
	for _, a := range l {
		for _, b := range l {
			sum, _ := Add(eur(a), eur(b))
			if back, e := Sub(sum, eur(b)); back != eur(a) || e != api.OK {
				t.Error(a, b, back, e)
			}
			n, _ := Cmp(eur(a), eur(b))
			if d, _ := Sub(eur(a), eur(b)); (n < 0) != (d.Amount < 0) {
				t.Error(a, b, n, d)
			}
		}
	}
}
