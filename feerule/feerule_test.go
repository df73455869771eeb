package feerule

import (
	"strconv"
	"testing"

	"cardnet/api"
	"cardnet/expr"
	"cardnet/ruletext"
)

func when(t *testing.T, s string) api.Expr {
	t.Helper()
	e, err, at := ruletext.ParseExpr(s)
	if err != api.OK {
		t.Fatal(s, err, at)
	}
	return e
}

func features(category, amount int64) []api.Feature {
	return []api.Feature{{Name: "category", Kind: api.TNumber, N: category}, {Name: "amount", Kind: api.TNumber, N: amount}, {Name: "shop", Kind: api.TText, Text: "m 1"}, {Name: "token", Kind: api.TBool, N: 1}}
}

func table(t *testing.T) []api.FeeRule {
	return []api.FeeRule{{Name: "food", When: when(t, "category = 5411"), Bps: 100, Max: 500}, {Name: "rest", When: when(t, "1 = 1"), Bps: 150, Fixed: 10}}
}

func TestP36_1Check(t *testing.T) {
	var many []api.FeeRule
	for i := range 65 {
		many = append(many, api.FeeRule{Name: "r" + strconv.Itoa(i), When: when(t, "token")})
	}
	with := func(f func(r *api.FeeRule)) []api.FeeRule {
		l := table(t)
		f(&l[1])
		return l
	}
	for i, c := range []struct {
		l    []api.FeeRule
		want api.Errno
	}{
		{nil, api.OK}, {table(t), api.OK}, {many, api.ErrLong}, {many[:64], api.OK}, {with(func(r *api.FeeRule) { r.Name, r.Bps = "a-b", -1 }), api.ErrName}, {with(func(r *api.FeeRule) { r.Name, r.Bps = "food", -1 }), api.ErrExists}, {with(func(r *api.FeeRule) { r.Bps, r.When = 10001, api.Expr{} }), api.ErrRange}, {with(func(r *api.FeeRule) { r.Bps = -1 }), api.ErrRange}, {with(func(r *api.FeeRule) { r.Fixed = -1 }), api.ErrRange}, {with(func(r *api.FeeRule) { r.Fixed = api.MaxAmount + 1 }), api.ErrRange}, {with(func(r *api.FeeRule) { r.Min = -1 }), api.ErrRange},
		{with(func(r *api.FeeRule) { r.Min, r.Max = 5, 4 }), api.ErrRange}, {with(func(r *api.FeeRule) { r.Min, r.Max = 5, 5 }), api.OK}, {with(func(r *api.FeeRule) { r.Max = api.MaxAmount + 1 }), api.ErrRange}, {with(func(r *api.FeeRule) { r.Max = -1 }), api.ErrRange}, {with(func(r *api.FeeRule) { r.When = api.Expr{} }), api.ErrFormat}, {with(func(r *api.FeeRule) { r.When = when(t, "other") }), api.ErrNone}, {with(func(r *api.FeeRule) { r.When = when(t, "amount") }), api.ErrType}, {with(func(r *api.FeeRule) { r.When = when(t, "1 + token < 1") }), api.ErrType},
	} {
		if e := Check(c.l, features(1, 1)); e != c.want {
			t.Error(i, e)
		}
	}
	if e := Check(table(t), []api.Feature{{}}); e != api.ErrName {
		t.Error(e)
	}
}

func TestP36_2P36_8Fee(t *testing.T) {
	for i, c := range []struct {
		r      api.FeeRule
		amount int64
		want   int64
		e      api.Errno
	}{
		{api.FeeRule{Bps: 150, Fixed: 10}, 1000, 25, api.OK}, {api.FeeRule{Bps: 50}, 100, 1, api.OK}, {api.FeeRule{Bps: 49}, 100, 0, api.OK}, {api.FeeRule{Bps: 150}, 100, 2, api.OK}, {api.FeeRule{Min: 7, Max: 9}, 0, 7, api.OK}, {api.FeeRule{Fixed: 100, Min: 7, Max: 9}, 0, 9, api.OK}, {api.FeeRule{Fixed: 100}, 0, 100, api.OK}, {api.FeeRule{Bps: 10000, Fixed: api.MaxAmount}, api.MaxAmount, 2 * api.MaxAmount, api.OK},
		{api.FeeRule{}, -1, 0, api.ErrRange}, {api.FeeRule{}, api.MaxAmount + 1, 0, api.ErrRange}, {api.FeeRule{Bps: -1}, 1, 0, api.ErrRange}, {api.FeeRule{Min: 8, Max: 7}, 1, 0, api.ErrRange},
	} {
		if n, e := Fee(c.r, c.amount); n != c.want || e != c.e {
			t.Error(i, n, e)
		}
	}
	last := int64(0)
	for amount := int64(0); amount < 3000; amount++ {
		n, _ := Fee(api.FeeRule{Bps: 123, Fixed: 2, Min: 5, Max: 30}, amount)
		if n < last || n < 5 || n > 30 {
			t.Error(amount, n)
		}
		last = n
	}
}

func TestP36_3P36_4P36_6Apply(t *testing.T) {
	l := table(t)
	for category, want := range map[int64]api.FeeLine{5411: {Rule: "food", Amount: 10, Why: "category=5411"}, 1: {Rule: "rest", Amount: 25}} {
		if x, e := Apply(l, features(category, 1000), 1000); x != want || e != api.OK {
			t.Error(x, e)
		}
	}
	for i, c := range []struct {
		l    []api.FeeRule
		fs   []api.Feature
		i    int
		want api.Errno
	}{{l, features(5411, 1), 0, api.OK}, {l, features(1, 1), 1, api.OK}, {l[:1], features(1, 1), 0, api.ErrNone}, {nil, nil, 0, api.ErrNone}, {l, nil, 1, api.OK}, {l, []api.Feature{{}}, 0, api.ErrNone}, {[]api.FeeRule{{When: when(t, "amount")}, {When: when(t, "token")}}, features(1, 1), 1, api.OK}} {
		if k, e := Pick(c.l, c.fs); k != c.i || e != c.want {
			t.Error(i, k, e)
		}
	}
	if x, e := Apply(l[:1], features(1, 1), -1); x != (api.FeeLine{}) || e != api.ErrNone {
		t.Error(x, e)
	}
	if x, e := Apply(l, features(1, 1), -1); x != (api.FeeLine{}) || e != api.ErrRange {
		t.Error(x, e)
	}
	both := []api.FeeRule{{Name: "a", When: when(t, "token and shop in (\"x\", \"m 1\") and -5 < amount and 0 <= count(shop, 5) and amount = -1")}}
	fs := features(1, -1)
	if x, e := Apply(both, fs, 0); x.Why != "amount=-1 shop=m 1 token=1" || e != api.OK {
		t.Error(x, e)
	}
}

func TestP36_5P36_7Prune(t *testing.T) {
	l := []api.FeeRule{{Name: "a", When: when(t, "1 = 2")}, {Name: "b", When: when(t, "category = 1 and 2 < 1")}, {Name: "c", When: when(t, "category = 1")}, {Name: "d", When: when(t, "2 * 2 = 4")}, {Name: "e", When: when(t, "amount = 1")}, {Name: "f", When: when(t, "1 = 1")}}
	if Total(l[:3]) || !Total(l) || !Total(l[5:]) || Total(nil) {
		t.Error("Total")
	}
	p := Prune(l)
	names := ""
	for _, r := range p {
		names += r.Name
	}
	if names != "bcd" {
		t.Error(names)
	}
	for _, category := range []int64{1, 2} {
		x, e := Apply(l, features(category, 1), 5)
		y, f := Apply(p, features(category, 1), 5)
		if x != y || e != f {
			t.Error(x, y)
		}
	}
	p[0].When.Args[0].Op = 99
	if expr.Same(p[0].When, l[1].When) || l[1].When.Args[0].Op == 99 || Prune(nil) != nil {
		t.Error("Prune shares memory")
	}
}
