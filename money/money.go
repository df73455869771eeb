// Package money: amounts of money. See shared/doc/01-money.md.
package money

import (
	"cmp"
	"math/bits"
	"slices"
	"strconv"
	"strings"

	"cardnet/api"
	"cardnet/text"
)

const mostFactor = 1 << 40

const mostWeights = 64

// exponents has the currencies whose exponent is not 2.
var exponents = [...]struct {
	currency string
	places   int
}{
	{"JPY", 0}, {"KRW", 0}, {"VND", 0}, {"CLP", 0}, {"ISK", 0},
	{"BHD", 3}, {"KWD", 3}, {"JOD", 3}, {"OMR", 3}, {"TND", 3},
}

// Check reports whether a currency and an amount are valid.
func Check(m api.Money) api.Errno {
	if !text.Currency(m.Currency) {
		return api.ErrCurrency
	}
	if m.Amount < -api.MaxTotal || m.Amount > api.MaxTotal {
		return api.ErrRange
	}
	return api.OK
}

// Add returns a + b.
func Add(a, b api.Money) (api.Money, api.Errno) {
	if e := checkPair(a, b); e != api.OK {
		return api.Money{}, e
	}
	return valid(a.Amount+b.Amount, a.Currency)
}

// Sub returns a - b.
func Sub(a, b api.Money) (api.Money, api.Errno) {
	if e := checkPair(a, b); e != api.OK {
		return api.Money{}, e
	}
	return valid(a.Amount-b.Amount, a.Currency)
}

// Cmp returns -1, 0 or 1 as a is less than, equal to or greater than b.
func Cmp(a, b api.Money) (int, api.Errno) {
	if e := checkPair(a, b); e != api.OK {
		return 0, e
	}
	return cmp.Compare(a.Amount, b.Amount), api.OK
}

func checkPair(a, b api.Money) api.Errno {
	if e := Check(a); e != api.OK {
		return e
	}
	if e := Check(b); e != api.OK {
		return e
	}
	if a.Currency != b.Currency {
		return api.ErrCurrency
	}
	return api.OK
}

func valid(amount int64, currency string) (api.Money, api.Errno) {
	m := api.Money{Amount: amount, Currency: currency}
	if e := Check(m); e != api.OK {
		return api.Money{}, e
	}
	return m, api.OK
}

// Scale returns m * num / den, rounded.
func Scale(m api.Money, num, den int64, mode int) (api.Money, api.Errno) {
	if e := Check(m); e != api.OK {
		return api.Money{}, e
	}
	if den < 1 || den > mostFactor || num < -mostFactor || num > mostFactor || mode < api.Down || mode > api.HalfEven {
		return api.Money{}, api.ErrRange
	}
	hi, lo := bits.Mul64(magnitude(m.Amount), magnitude(num))
	if hi >= uint64(den) {
		return api.Money{}, api.ErrRange
	}
	q, rest := bits.Div64(hi, lo, uint64(den))
	if q > api.MaxTotal {
		return api.Money{}, api.ErrRange
	}
	if roundsUp(q, rest, uint64(den), mode) {
		q++
	}
	n := int64(q)
	if (m.Amount < 0) != (num < 0) {
		n = -n
	}
	return valid(n, m.Currency)
}

func magnitude(n int64) uint64 {
	if n < 0 {
		return uint64(-n)
	}
	return uint64(n)
}

// roundsUp decides whether a magnitude of q and rest/den is rounded away from zero.
func roundsUp(q, rest, den uint64, mode int) bool {
	switch mode {
	case api.Up:
		return rest > 0
	case api.HalfUp:
		return 2*rest >= den
	case api.HalfEven:
		return 2*rest > den || 2*rest == den && q%2 == 1
	}
	return false
}

// part is a share of a split: what it gets, and what was left over when it was rounded down.
type part struct {
	index     int
	get, rest uint64
}

// Split divides m in proportion to weights, without losing a unit.
func Split(m api.Money, weights []int64) ([]api.Money, api.Errno) {
	if e := Check(m); e != api.OK {
		return nil, e
	}
	sum, ok := total(weights)
	if !ok {
		return nil, api.ErrRange
	}
	whole := magnitude(m.Amount)
	parts := make([]part, len(weights))
	left := whole
	for i, w := range weights {
		hi, lo := bits.Mul64(whole, uint64(w))
		get, rest := bits.Div64(hi, lo, sum)
		parts[i] = part{index: i, get: get, rest: rest}
		left -= get
	}
	slices.SortStableFunc(parts, func(a, b part) int { return cmp.Compare(b.rest, a.rest) })
	result := make([]api.Money, len(weights))
	for _, p := range parts {
		if left > 0 {
			p.get++
			left--
		}
		n := int64(p.get)
		if m.Amount < 0 {
			n = -n
		}
		result[p.index] = api.Money{Amount: n, Currency: m.Currency}
	}
	return result, api.OK
}

func total(weights []int64) (uint64, bool) {
	if len(weights) > mostWeights {
		return 0, false
	}
	sum := uint64(0)
	for _, w := range weights {
		if w < 0 || w > mostFactor {
			return 0, false
		}
		sum += uint64(w)
	}
	return sum, sum > 0
}

// Sum returns the sum of amounts of one currency.
func Sum(currency string, l []api.Money) (api.Money, api.Errno) {
	sum := api.Money{Currency: currency}
	if e := Check(sum); e != api.OK {
		return api.Money{}, e
	}
	for _, m := range l {
		next, e := Add(sum, m)
		if e != api.OK {
			return api.Money{}, e
		}
		sum = next
	}
	return sum, api.OK
}

// Exponent returns the number of decimal places of a currency.
func Exponent(currency string) (int, bool) {
	if !text.Currency(currency) {
		return 0, false
	}
	for _, x := range exponents {
		if x.currency == currency {
			return x.places, true
		}
	}
	return 2, true
}

// Format returns the text of an amount.
func Format(m api.Money) string {
	if Check(m) != api.OK {
		return ""
	}
	places, _ := Exponent(m.Currency)
	digits := strconv.FormatUint(magnitude(m.Amount), 10)
	for len(digits) <= places {
		digits = "0" + digits
	}
	s := digits[:len(digits)-places]
	if places > 0 {
		s += "." + digits[len(digits)-places:]
	}
	if m.Amount < 0 {
		s = "-" + s
	}
	return s + " " + m.Currency
}

// Parse returns the amount with this text.
func Parse(s string) (api.Money, api.Errno) {
	if s == "" {
		return api.Money{}, api.ErrShort
	}
	if len(s) < 4 || s[len(s)-4] != ' ' {
		return api.Money{}, api.ErrFormat
	}
	currency := s[len(s)-3:]
	places, ok := Exponent(currency)
	if !ok {
		return api.Money{}, api.ErrFormat
	}
	number, negative := strings.CutPrefix(s[:len(s)-4], "-")
	digits, ok := unitDigits(number, places)
	if !ok {
		return api.Money{}, api.ErrFormat
	}
	n := saturated(digits)
	if n == 0 && negative {
		return api.Money{}, api.ErrFormat
	}
	if negative {
		n = -n
	}
	return valid(n, currency)
}

// unitDigits returns the digits of a decimal number without its point; false if it is not written as Format does.
func unitDigits(s string, places int) (string, bool) {
	whole, fraction := s, ""
	if places > 0 {
		point := len(s) - places - 1
		if point < 0 || s[point] != '.' {
			return "", false
		}
		whole, fraction = s[:point], s[point+1:]
		if !text.Digits(fraction) {
			return "", false
		}
	}
	if !text.Digits(whole) || len(whole) > 1 && whole[0] == '0' {
		return "", false
	}
	return whole + fraction, true
}

// saturated returns the number of some digits, or one above MaxTotal if it is greater than that.
func saturated(digits string) int64 {
	n := int64(0)
	for i := 0; i < len(digits) && n <= api.MaxTotal; i++ {
		n = n*10 + int64(digits[i]-'0')
	}
	return n
}
