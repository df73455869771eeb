package expr

import (
	"math/bits"

	"cardnet/api"
)

// value evaluates an expression that Check has accepted.
func value(e api.Expr, l []api.Feature, s Source) (api.Feature, api.Errno) {
	switch e.Op {
	case api.XText:
		return api.Feature{Kind: api.TText, Text: e.Text}, api.OK
	case api.XName:
		f, _ := feature(l, e.Name)
		return plain(f), api.OK
	case api.XIn:
		return contained(e.Args, l, s)
	case api.XAnd, api.XOr:
		a, err := value(e.Args[0], l, s)
		if determined := a.N == 1 == (e.Op == api.XOr); err != api.OK || determined {
			return a, err
		}
		return value(e.Args[1], l, s)
	case api.XEq, api.XNe, api.XLt, api.XLe:
		a, b, err := operands(e, l, s)
		if err != api.OK {
			return api.Feature{}, err
		}
		return truth(compared(e.Op, a, b)), api.OK
	case api.XNot:
		a, err := value(e.Args[0], l, s)
		if err != api.OK {
			return api.Feature{}, err
		}
		return truth(a.N == 0), api.OK
	}
	return number(e, l, s)
}

// plain returns a feature without its name and the field that its kind does not use.
func plain(f api.Feature) api.Feature {
	if f.Kind == api.TText {
		return api.Feature{Kind: f.Kind, Text: f.Text}
	}
	return api.Feature{Kind: f.Kind, N: f.N}
}

func truth(holds bool) api.Feature {
	if holds {
		return api.Feature{Kind: api.TBool, N: 1}
	}
	return api.Feature{Kind: api.TBool}
}

// operands evaluates the arguments of an operator that has one or two.
func operands(e api.Expr, l []api.Feature, s Source) (a, b api.Feature, err api.Errno) {
	if len(e.Args) > 0 {
		a, err = value(e.Args[0], l, s)
	}
	if err == api.OK && len(e.Args) > 1 {
		b, err = value(e.Args[1], l, s)
	}
	return a, b, err
}

func compared(op int, a, b api.Feature) bool {
	switch op {
	case api.XEq:
		return a == b
	case api.XNe:
		return a != b
	case api.XLt:
		return a.N < b.N
	}
	return a.N <= b.N
}

// contained reports whether the first argument equals one of the others.
func contained(args []api.Expr, l []api.Feature, s Source) (api.Feature, api.Errno) {
	first, err := value(args[0], l, s)
	if err != api.OK {
		return api.Feature{}, err
	}
	for _, x := range args[1:] {
		v, err := value(x, l, s)
		if err != api.OK {
			return api.Feature{}, err
		}
		if v == first {
			return truth(true), api.OK
		}
	}
	return truth(false), api.OK
}

// number evaluates a part of the type TNumber that is not a feature.
func number(e api.Expr, l []api.Feature, s Source) (api.Feature, api.Errno) {
	a, b, err := operands(e, l, s)
	if err != api.OK {
		return api.Feature{}, err
	}
	n, ok := e.N, true
	switch e.Op {
	case api.XNeg:
		n = -a.N
	case api.XAdd:
		// A sum or difference that does not fit into 64 bits is 2^63, which wraps to what is no number either.
		n = a.N + b.N
	case api.XSub:
		n = a.N - b.N
	case api.XMul:
		n, ok = product(a.N, b.N)
	case api.XCount, api.XSum:
		n = ask(e, s)
	}
	if !ok || !isNumber(n) {
		return api.Feature{}, api.ErrRange
	}
	return api.Feature{Kind: api.TNumber, N: n}, api.OK
}

func ask(e api.Expr, s Source) int64 {
	if s == nil {
		return 0
	}
	if e.Op == api.XCount {
		return s.Count(e.Name, int(e.N))
	}
	return s.Sum(e.Name, int(e.N))
}

// product multiplies numbers; false if the result is not a number.
func product(a, b int64) (int64, bool) {
	hi, lo := bits.Mul64(magnitude(a), magnitude(b))
	if hi > 0 || lo > mostNumber {
		return 0, false
	}
	if (a < 0) != (b < 0) {
		return -int64(lo), true
	}
	return int64(lo), true
}

func magnitude(n int64) uint64 {
	if n < 0 {
		return uint64(-n)
	}
	return uint64(n)
}
