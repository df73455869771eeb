package expr

import (
	"slices"
	"testing"

	"cardnet/api"
)

func TestP24_2P24_3P24_5Limits(t *testing.T) {
	for i, c := range []struct {
		e    api.Expr
		want api.Errno
	}{
		{op(api.XIn, slices.Repeat([]api.Expr{n(1)}, 18)...), api.ErrFormat}, {op(api.XIn, slices.Repeat([]api.Expr{n(1)}, 17)...), api.OK}, {txt(" ~"), api.OK}, {txt("\x1f"), api.ErrFormat}, {api.Expr{Op: 99, Args: []api.Expr{n(1)}}, api.ErrFormat}, {api.Expr{Op: 99, Args: []api.Expr{n(1), n(1)}}, api.ErrFormat},
	} {
		if _, e := Check(c.e, nil); e != c.want {
			t.Error(i, e)
		}
	}
	number := func(x int64) api.Feature { return api.Feature{Kind: api.TNumber, N: x} }
	for i, c := range []struct {
		e    api.Expr
		want api.Feature
		err  api.Errno
	}{
		{op(api.XAdd, n(1<<62-1), n(1)), number(1 << 62), api.OK}, {op(api.XAdd, n(-1<<62), n(-1<<62)), api.Feature{}, api.ErrRange}, {op(api.XAdd, n(-1<<62+1), n(-1)), number(-1 << 62), api.OK}, {op(api.XSub, n(1<<62), n(-1<<62)), api.Feature{}, api.ErrRange}, {op(api.XMul, n(-2), n(-3)), number(6), api.OK}, {op(api.XMul, n(-1), n(1<<62)), number(-1 << 62), api.OK}, {op(api.XMul, n(2), n(0)), number(0), api.OK}, {op(api.XMul, n(1), n(5)), number(5), api.OK}, {op(api.XMul, n(-1), n(1)), number(-1), api.OK}, {op(api.XMul, n(1), n(-1)), number(-1), api.OK},
		{op(api.XIn, n(3), n(3), op(api.XAdd, n(1<<62), n(1))), api.Feature{Kind: api.TBool, N: 1}, api.OK},
	} {
		if v, e := Eval(c.e, nil, nil); v != c.want || e != c.err {
			t.Error(i, v, e)
		}
	}
	eight := op(api.XNeg, n(1))
	for range 6 {
		eight = op(api.XNeg, eight)
	}
	if Levels(eight) != 8 || !Same(Fold(eight), n(-1)) {
		t.Error(Fold(eight))
	}
}
