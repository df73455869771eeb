package cryptogram

import (
	"math"
	"testing"

	"cardnet/api"
	"cardnet/keyed"
	"cardnet/pan"
)

const token = "4111111111111111"

var eur = api.Money{Amount: 100, Currency: "EUR"}

func TestP16_1Make(t *testing.T) {
	if s, e := Make(7, token, 5, eur, "n1"); s != keyed.Text(keyed.Mac(keyed.Derive(7, token), "5/100/EUR/n1")) || e != api.OK {
		t.Error(s, e)
	}
	for i, c := range []struct {
		token   string
		counter int
		amount  api.Money
		nonce   string
		e       api.Errno
	}{
		{"4111111111111112", 0, eur, "", api.ErrCard}, {"1", 1, eur, "", api.ErrCard}, {token, 0, api.Money{}, "", api.ErrRange}, {token, 1000000, eur, "", api.ErrRange}, {token, 1, api.Money{}, " ", api.ErrCurrency}, {token, 1, api.Money{Amount: 1 << 53, Currency: "EUR"}, " ", api.ErrRange},
		{token, 1, eur, " ", api.ErrFormat}, {token, 1, eur, "123456789", api.ErrFormat}, {token, 1, eur, "\x7f", api.ErrFormat}, {token, 999999, eur, "12345678", api.OK}, {token, 1, api.Money{Amount: -5, Currency: "EUR"}, "!~", api.OK},
	} {
		s, e := Make(7, c.token, c.counter, c.amount, c.nonce)
		if e != c.e || (e == api.OK) != (len(s) == 16) {
			t.Error(i, s, e)
		}
		x, _ := New(7, 0)
		if e := x.Check(c.token, c.counter, c.amount, c.nonce, s); e != c.e {
			t.Error(i, e)
		}
	}
}

func accept(c *Checker, token string, counter int) api.Errno {
	s, _ := Make(7, token, counter, eur, "")
	return c.Check(token, counter, eur, "", s)
}

func TestP16_2P16_3P16_6Check(t *testing.T) {
	for _, w := range []int{-1, 64} {
		if c, e := New(7, w); c != nil || e != api.ErrRange {
			t.Error(w, e)
		}
	}
	c, _ := New(7, 2)
	for i, x := range []struct {
		counter int
		e       api.Errno
		last    int
	}{{5, api.OK, 5}, {5, api.ErrDuplicate, 5}, {3, api.OK, 5}, {4, api.OK, 5}, {3, api.ErrDuplicate, 5}, {2, api.ErrDuplicate, 5}, {9, api.OK, 9}, {6, api.ErrDuplicate, 9}, {8, api.OK, 9}, {7, api.OK, 9}, {7, api.ErrDuplicate, 9}, {10, api.OK, 10}, {9, api.ErrDuplicate, 10}, {999999, api.OK, 999999}, {999998, api.OK, 999999}} {
		if e := accept(c, token, x.counter); e != x.e || c.Last(token) != x.last {
			t.Error(i, e, c.Last(token))
		}
	}
	wide, _ := New(7, 63)
	for i := range 64 {
		if e := accept(wide, token, 100-i); e != api.OK {
			t.Error(i, e)
		}
	}
	if accept(wide, token, 36) != api.ErrDuplicate || accept(wide, token, 163) != api.OK || !wide.Used(token, 100) || wide.Used(token, 101) {
		t.Error("window of 63")
	}
}

func TestP16_4P16_5P16_7P16_8Queries(t *testing.T) {
	c, _ := New(7, 2)
	code, _ := Make(7, token, 10, eur, "")
	if c.Check(token, 11, eur, "", code) != api.ErrMac || c.Check(token, 10, eur, "x", code) != api.ErrMac || c.Check(token, 10, eur, "", code[1:]) != api.ErrMac || c.Last(token) != 0 || c.Used(token, -9) {
		t.Error("a wrong cryptogram")
	}
	if other, _ := New(8, 2); other.Check(token, 10, eur, "", code) != api.ErrMac {
		t.Error("another key")
	}
	accept(c, token, 10)
	for n, want := range map[int]bool{math.MinInt: true, -1: true, 7: true, 8: false, 9: false, 10: true, 11: false, math.MaxInt: false} {
		if c.Used(token, n) != want || c.Used("x", n) {
			t.Error(n)
		}
	}
	for i := range api.MaxTokens - 1 {
		s, _ := pan.Make("51", i, 16)
		if accept(c, s, 1) != api.OK {
			t.Error(i)
		}
	}
	more, _ := pan.Make("52", 0, 16)
	if accept(c, more, 1) != api.ErrFull || accept(c, token, 12) != api.OK || c.Last(more) != 0 || c.Used(more, 1) {
		t.Error("more tokens than there is room for")
	}
	for _, none := range []*Checker{nil, {}} {
		if accept(none, token, 1) != api.ErrNone || none.Last(token) != 0 || none.Used(token, 1) {
			t.Error("missing checker")
		}
	}
}
