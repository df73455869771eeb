package expr

import (
	"slices"
	"strings"
	"testing"

	"cardnet/api"
)

func n(x int64) api.Expr     { return api.Expr{Op: api.XNumber, N: x} }
func txt(s string) api.Expr  { return api.Expr{Op: api.XText, Text: s} }
func name(s string) api.Expr { return api.Expr{Op: api.XName, Name: s} }
func op(o int, args ...api.Expr) api.Expr {
	return api.Expr{Op: o, Args: args}
}
func count(o int, s string, w int64) api.Expr { return api.Expr{Op: o, Name: s, N: w} }
func yes() api.Expr                           { return op(api.XEq, n(1), n(1)) }
func no() api.Expr                            { return op(api.XEq, n(1), n(2)) }

func num(s string, x int64) api.Feature { return api.Feature{Name: s, Kind: api.TNumber, N: x} }

func features() []api.Feature {
	return []api.Feature{num("amount", 5), {Name: "card", Kind: api.TText, Text: "c1"}, {Name: "token", Kind: api.TBool, N: 1}}
}

func deep(levels int) api.Expr {
	e := n(1)
	for range levels - 1 {
		e = op(api.XNeg, e)
	}
	return e
}

// fixed is a source with the same answers for all names.
type fixed struct {
	count, sum int64
	asked      *[]string
}

func (f fixed) Count(name string, window int) int64 {
	*f.asked = append(*f.asked, name)
	return f.count + int64(window)
}
func (f fixed) Sum(name string, window int) int64 {
	*f.asked = append(*f.asked, name+"+")
	return f.sum
}

func TestP24_1P24_2Check(t *testing.T) {
	if Levels(api.Expr{}) != 1 || Levels(deep(8)) != 8 || Levels(op(api.XIn, n(1), deep(3), n(2))) != 4 {
		t.Error("Levels")
	}
	for i, c := range []struct {
		e    api.Expr
		kind int
		want api.Errno
	}{
		{n(1 << 62), api.TNumber, api.OK}, {n(1<<62 + 1), 0, api.ErrFormat}, {n(-1 << 62), api.TNumber, api.OK}, {n(-1<<62 - 1), 0, api.ErrFormat}, {txt(strings.Repeat("a", 100)), api.TText, api.OK}, {txt(strings.Repeat("a", 101)), 0, api.ErrFormat}, {txt("a\"b"), 0, api.ErrFormat}, {txt("\x7f"), 0, api.ErrFormat}, {txt(""), api.TText, api.OK},
		{name("amount"), api.TNumber, api.OK}, {name("card"), api.TText, api.OK}, {name("token"), api.TBool, api.OK}, {name("other"), 0, api.ErrNone}, {name("1x"), 0, api.ErrFormat}, {api.Expr{}, 0, api.ErrFormat}, {api.Expr{Op: 18}, 0, api.ErrFormat}, {api.Expr{Op: api.XText, Text: "a", Args: []api.Expr{n(1), n(2)}}, 0, api.ErrFormat},
		{api.Expr{Op: api.XNumber, N: 1, Name: "a"}, 0, api.ErrFormat}, {api.Expr{Op: api.XNumber, N: 1, Text: "a"}, 0, api.ErrFormat}, {api.Expr{Op: api.XName, Name: "amount", N: 1}, 0, api.ErrFormat}, {api.Expr{Op: api.XText, Name: "a"}, 0, api.ErrFormat}, {api.Expr{Op: api.XNeg, N: 1, Args: []api.Expr{n(1)}}, 0, api.ErrFormat}, {api.Expr{Op: api.XCount, Name: "card", N: 1, Text: "x"}, 0, api.ErrFormat},
		{op(api.XNeg), 0, api.ErrFormat}, {op(api.XNeg, n(1), n(2)), 0, api.ErrFormat}, {op(api.XAnd, yes()), 0, api.ErrFormat}, {op(api.XAnd, yes(), no(), no()), 0, api.ErrFormat}, {op(api.XAnd, n(1), yes()), 0, api.ErrType}, {op(api.XAnd, n(1), n(1)), 0, api.ErrType}, {op(api.XAnd, yes(), name("token")), api.TBool, api.OK},
		{op(api.XNot, n(1)), 0, api.ErrType}, {op(api.XNot, name("token")), api.TBool, api.OK}, {op(api.XNeg, txt("a")), 0, api.ErrType}, {op(api.XEq, txt("a"), name("card")), api.TBool, api.OK}, {op(api.XEq, yes(), no()), api.TBool, api.OK}, {op(api.XNe, yes(), n(1)), 0, api.ErrType}, {op(api.XLt, txt("a"), txt("b")), 0, api.ErrType}, {op(api.XLe, n(1), n(2)), api.TBool, api.OK}, {op(api.XAdd, n(1), txt("a")), 0, api.ErrType},
		{op(api.XMul, n(1), name("amount")), api.TNumber, api.OK}, {op(api.XIn, n(1)), 0, api.ErrFormat}, {op(api.XIn, make([]api.Expr, 18)...), 0, api.ErrFormat}, {op(api.XIn, slices.Repeat([]api.Expr{n(1)}, 17)...), api.TBool, api.OK}, {op(api.XIn, yes(), yes()), 0, api.ErrType}, {op(api.XIn, n(1), n(2), txt("a")), 0, api.ErrType}, {op(api.XIn, txt("a"), txt("b")), api.TBool, api.OK},
		{count(api.XCount, "card", 1), api.TNumber, api.OK}, {count(api.XSum, "card", 10000000), api.TNumber, api.OK}, {count(api.XCount, "card", 0), 0, api.ErrFormat}, {count(api.XCount, "card", 10000001), 0, api.ErrFormat}, {count(api.XSum, "amount", 5), 0, api.ErrType}, {count(api.XCount, "other", 5), 0, api.ErrNone}, {count(api.XCount, "", 5), 0, api.ErrFormat},
		{deep(8), api.TNumber, api.OK}, {deep(9), 0, api.ErrDepth}, {op(api.XAdd, op(api.XNot, n(1)), name("other")), 0, api.ErrType}, {op(api.XNot, op(api.XAdd, name("other"), yes())), 0, api.ErrNone}, {op(api.XAnd, yes(), op(api.XAdd, n(1), api.Expr{})), 0, api.ErrFormat},
	} {
		if kind, e := Check(c.e, features()); kind != c.kind || e != c.want {
			t.Error(i, kind, e)
		}
		if _, e := Eval(c.e, features(), nil); c.want != api.OK && e != c.want {
			t.Error(i, e)
		}
	}
	for i, c := range []struct {
		l    []api.Feature
		want api.Errno
	}{
		{[]api.Feature{num("1", 0)}, api.ErrName}, {[]api.Feature{num("a", 1<<62+1)}, api.ErrRange}, {[]api.Feature{{Name: "a"}}, api.ErrRange}, {[]api.Feature{{Name: "a", Kind: 4}}, api.ErrRange}, {[]api.Feature{{Name: "a", Kind: api.TBool, N: 2}}, api.ErrRange}, {[]api.Feature{num("a", 0), num("a", 0)}, api.ErrExists}, {[]api.Feature{num("a", 0), num("a", 1<<62+1)}, api.ErrRange}, {[]api.Feature{num("a", 0), num("a", 0), num("", 0)}, api.ErrExists},
		{[]api.Feature{{Name: "a", Kind: api.TText, N: 1<<63 - 1}, {Name: "b", Kind: api.TBool, Text: "x"}}, api.ErrDepth},
	} {
		if kind, e := Check(deep(9), c.l); kind != 0 || e != c.want {
			t.Error(i, kind, e)
		}
	}
}

func TestP24_3P24_8Eval(t *testing.T) {
	huge := num("amount", 1<<62)
	big := n(1 << 62)
	overflow := op(api.XLt, op(api.XAdd, big, n(1)), n(0))
	asked := []string{}
	source := fixed{count: 7, sum: 9, asked: &asked}
	wild := fixed{sum: 1<<62 + 1, asked: &asked}
	truthOf := func(x int64) api.Feature { return api.Feature{Kind: api.TBool, N: x} }
	number := func(x int64) api.Feature { return api.Feature{Kind: api.TNumber, N: x} }
	for i, c := range []struct {
		e    api.Expr
		s    Source
		want api.Feature
		err  api.Errno
	}{
		{op(api.XAdd, name("amount"), n(1)), nil, number(6), api.OK}, {op(api.XSub, n(2), name("amount")), nil, number(-3), api.OK}, {op(api.XMul, n(-3), name("amount")), nil, number(-15), api.OK}, {op(api.XNeg, big), nil, number(-1 << 62), api.OK}, {name("card"), nil, api.Feature{Kind: api.TText, Text: "c1"}, api.OK}, {txt("x"), nil, api.Feature{Kind: api.TText, Text: "x"}, api.OK},
		{op(api.XAdd, big, n(1)), nil, api.Feature{}, api.ErrRange}, {op(api.XAdd, big, big), nil, api.Feature{}, api.ErrRange}, {op(api.XSub, n(-1<<62), n(1)), nil, api.Feature{}, api.ErrRange}, {op(api.XSub, n(-1<<62), big), nil, api.Feature{}, api.ErrRange}, {op(api.XMul, n(1<<40), n(1<<40)), nil, api.Feature{}, api.ErrRange}, {op(api.XMul, n(1<<31), n(-1<<31)), nil, number(-1 << 62), api.OK}, {op(api.XMul, n(3), n(1<<61)), nil, api.Feature{}, api.ErrRange}, {op(api.XSub, big, n(-1)), nil, api.Feature{}, api.ErrRange}, {op(api.XMul, n(0), big), nil, number(0), api.OK},
		{op(api.XAnd, no(), overflow), nil, truthOf(0), api.OK}, {op(api.XOr, yes(), overflow), nil, truthOf(1), api.OK}, {op(api.XAnd, yes(), overflow), nil, api.Feature{}, api.ErrRange}, {op(api.XOr, no(), overflow), nil, api.Feature{}, api.ErrRange}, {op(api.XAnd, overflow, no()), nil, api.Feature{}, api.ErrRange}, {op(api.XOr, no(), yes()), nil, truthOf(1), api.OK}, {op(api.XOr, no(), no()), nil, truthOf(0), api.OK}, {op(api.XAnd, yes(), name("token")), nil, truthOf(1), api.OK},
		{op(api.XEq, txt("c1"), name("card")), nil, truthOf(1), api.OK}, {op(api.XNe, txt("c1"), name("card")), nil, truthOf(0), api.OK}, {op(api.XEq, name("token"), yes()), nil, truthOf(1), api.OK}, {op(api.XLt, n(1), n(1)), nil, truthOf(0), api.OK}, {op(api.XLe, n(1), n(1)), nil, truthOf(1), api.OK}, {op(api.XLt, n(-2), n(1)), nil, truthOf(1), api.OK}, {op(api.XNot, name("token")), nil, truthOf(0), api.OK}, {op(api.XNot, no()), nil, truthOf(1), api.OK},
		{op(api.XIn, name("amount"), n(4), n(5), op(api.XAdd, big, n(1))), nil, truthOf(1), api.OK}, {op(api.XIn, name("amount"), n(4), op(api.XAdd, big, n(1)), n(5)), nil, api.Feature{}, api.ErrRange}, {op(api.XIn, name("card"), txt("c"), txt("c2")), nil, truthOf(0), api.OK},
		{count(api.XCount, "card", 60), nil, number(0), api.OK}, {count(api.XCount, "card", 60), source, number(67), api.OK}, {op(api.XAdd, count(api.XSum, "card", 60), n(1)), source, number(10), api.OK}, {count(api.XSum, "card", 60), wild, api.Feature{}, api.ErrRange}, {op(api.XNe, op(api.XNeg, n(1)), op(api.XNeg, n(1))), nil, truthOf(0), api.OK},
	} {
		if v, e := Eval(c.e, features(), c.s); v != c.want || e != c.err {
			t.Error(i, v, e)
		}
		extra := append(features(), num("unused", 3))
		if v, e := Eval(c.e, extra, c.s); v != c.want || e != c.err {
			t.Error(i, v, e)
		}
	}
	if v, e := Eval(op(api.XAdd, name("amount"), n(1)), []api.Feature{huge}, nil); v != (api.Feature{}) || e != api.ErrRange {
		t.Error(v, e)
	}
	asked = nil
	Eval(op(api.XAnd, op(api.XLt, count(api.XSum, "card", 1), count(api.XCount, "card", 1)), no()), features(), source)
	if !slices.Equal(asked, []string{"card+", "card"}) {
		t.Error(asked)
	}
	if v, _ := Eval(name("a"), []api.Feature{{Name: "a", Kind: api.TNumber, N: 3, Text: "ignored"}}, nil); v != number(3) {
		t.Error(v)
	}
}

func TestP24_4Names(t *testing.T) {
	e := op(99, name("b"), count(api.XCount, "card", 60), op(api.XNot, count(api.XSum, "a", 600), name("b"), name("")), n(5))
	if l := Names(e); !slices.Equal(l, []string{"", "a", "b", "card"}) {
		t.Error(l)
	}
	if l, w := Windows(e); !slices.Equal(l, []string{"a", "card"}) || w != 600 {
		t.Error(l, w)
	}
	if l, w := Windows(count(api.XCount, "x", -5)); !slices.Equal(l, []string{"x"}) || w != 0 {
		t.Error(l, w)
	}
	if l, w := Windows(n(7)); l != nil || w != 0 || Names(n(7)) != nil {
		t.Error(l, w)
	}
}

func TestP24_5P24_7Fold(t *testing.T) {
	overflow := op(api.XMul, n(1<<62), n(2))
	for i, c := range []struct{ e, want api.Expr }{
		{op(api.XLt, op(api.XMul, n(2), n(3)), name("amount")), op(api.XLt, n(6), name("amount"))}, {op(api.XLt, op(api.XMul, n(2), n(3)), n(7)), yes()}, {op(api.XNot, yes()), no()}, {txt("a"), txt("a")}, {op(api.XNeg, n(5)), n(-5)}, {overflow, overflow}, {op(api.XAdd, overflow, op(api.XNeg, n(1))), op(api.XAdd, overflow, n(-1))},
		{op(api.XAdd, yes(), op(api.XAdd, n(1), n(1))), op(api.XAdd, yes(), n(2))}, {op(api.XAnd, no(), name("token")), op(api.XAnd, no(), name("token"))}, {count(api.XCount, "card", 5), count(api.XCount, "card", 5)}, {deep(9), deep(9)}, {op(api.XNeg, op(api.XNeg, n(1)), n(2)), op(api.XNeg, op(api.XNeg, n(1)), n(2))},
		{op(api.XAnd, op(api.XIn, n(1), n(2), op(api.XAdd, n(0), n(1))), name("token")), op(api.XAnd, yes(), name("token"))},
	} {
		f := Fold(c.e)
		if !Same(f, c.want) || !Same(Fold(f), f) || Levels(f) > Levels(c.e) || !slices.Equal(Names(f), Names(c.e)) {
			t.Error(i, f)
		}
		for _, l := range [][]api.Feature{features(), nil} {
			k, err := Check(c.e, l)
			v, verr := Eval(c.e, l, nil)
			fk, ferr := Check(f, l)
			fv, fverr := Eval(f, l, nil)
			if k != fk || err != ferr || v != fv || verr != fverr {
				t.Error(i, err, ferr, v, fv)
			}
		}
	}
	e := op(api.XNeg, name("a"))
	f := Fold(e)
	f.Args[0].Name = "b"
	g := Fold(deep(9))
	g.Args[0].N = 9
	if e.Args[0].Name != "a" {
		t.Error("Fold shares memory")
	}
}

func TestP24_6Same(t *testing.T) {
	a := op(api.XAnd, name("a"), count(api.XSum, "b", 4))
	for i, b := range []api.Expr{op(api.XOr, name("a"), count(api.XSum, "b", 4)), op(api.XAnd, name("a")), op(api.XAnd, name("b"), count(api.XSum, "b", 4)), op(api.XAnd, name("a"), count(api.XSum, "b", 5)), {Op: api.XAnd, Text: "x", Args: a.Args}} {
		if Same(a, b) || Same(b, a) || !Same(b, b) {
			t.Error(i)
		}
	}
	if !Same(a, op(api.XAnd, name("a"), count(api.XSum, "b", 4))) || !Same(api.Expr{Args: []api.Expr{}}, api.Expr{}) {
		t.Error("equal expressions")
	}
}
