package feetext

import (
	"slices"
	"strconv"
	"strings"
	"testing"

	"cardnet/api"
	"cardnet/expr"
	"cardnet/ruletext"
)

func when(t *testing.T, s string) api.Expr {
	t.Helper()
	e, err, at := ruletext.ParseExpr(s)
	if err != api.OK {
		t.Fatal(s, err, at)
	}
	return e
}

func same(a, b []api.FeeRule) bool {
	return slices.EqualFunc(a, b, func(x, y api.FeeRule) bool {
		return x.Name == y.Name && x.Bps == y.Bps && x.Fixed == y.Fixed && x.Min == y.Min && x.Max == y.Max && expr.Same(x.When, y.When)
	})
}

func TestP37_1P37_4P37_5Parse(t *testing.T) {
	food := api.FeeRule{Name: "food", When: when(t, "category in (5411, 5412)"), Bps: 105, Fixed: 10, Max: 500}
	all := api.FeeRule{Name: "all", When: when(t, "1 = 1")}
	part := func(f func(r *api.FeeRule)) api.FeeRule {
		r := all
		f(&r)
		return r
	}
	for s, want := range map[string][]api.FeeRule{
		"": nil, " # x 1.5% \n": nil, "fee food when category in (5411, 5412): 1.05% + 10 max 500;": {food}, "fee all when 1 = 1: 0%;fee food when category in(5411,5412):1.05%+10 max 500;#": {all, food}, "fee all when 1 = 1: 100% + 1 min 2 max 3;": {part(func(r *api.FeeRule) { r.Bps, r.Fixed, r.Min, r.Max = 10000, 1, 2, 3 })},
		"fee all when 1 = 1: 0.5% min 9007199254740992;": {part(func(r *api.FeeRule) { r.Bps, r.Min = 50, 1<<53 })}, "fee all when 1 = 1:#1.5%\n2.25%# \"\n;": {part(func(r *api.FeeRule) { r.Bps = 225 })}, "fee all when shop = \"1.5%\": 1%;": {part(func(r *api.FeeRule) { r.Bps, r.When = 100, when(t, "shop = \"1.5%\"") })}, "fee all when fee < min + max: 1% + 0 min 0 max 0;": {part(func(r *api.FeeRule) { r.Bps, r.When = 100, when(t, "fee < min + max") })},
	} {
		l, e, at := Parse(s)
		if !same(l, want) || e != api.OK || at != 0 {
			t.Error(s, l, e, at)
		}
		if again, e, _ := Parse(Format(l)); !same(again, want) || e != api.OK {
			t.Error(s, again, e)
		}
	}
	many := ""
	for i := range 64 {
		many += "fee r" + strconv.Itoa(10+i) + " when a:1%;"
	}
	if l, e, _ := Parse(many); len(l) != 64 || e != api.OK {
		t.Error(e)
	}
	type place struct {
		e  api.Errno
		at int
	}
	for s, want := range map[string]place{
		"fee a when 1 = 1: 1 %;": {api.ErrFormat, 18}, "fee a when 1 = 1: 1;": {api.ErrFormat, 19}, "fee min when 1 = 1: 1%;": {api.ErrFormat, 4}, "fee rule when": {api.ErrFormat, 4}, "fee fee": {api.ErrFormat, 4}, "fee 1": {api.ErrFormat, 4}, "x": {api.ErrFormat, 0}, "fee": {api.ErrFormat, 3}, "fee a": {api.ErrFormat, 5}, "fee a 1": {api.ErrFormat, 6}, "fee a when": {api.ErrFormat, 10}, "fee a when : 1%;": {api.ErrFormat, 11}, "fee a when 1 = 1 # \n: ": {api.ErrFormat, 22}, "fee a when 1 = : 1%;": {api.ErrFormat, 15}, "fee a when (1 # :\n : 1%;": {api.ErrFormat, 19},
		"fee a when 1; fee b when 1: 1%;": {api.ErrFormat, 12}, "fee a when 1.5% < 2: 1%;": {api.ErrFormat, 14}, "fee a when 1: x%;": {api.ErrFormat, 14}, "fee a when 1: 101%;": {api.ErrFormat, 14}, "fee a when 1: 1.50%;": {api.ErrFormat, 14}, "fee a when 1: 1.555%;": {api.ErrFormat, 14}, "fee a when 1: 100.01%;": {api.ErrFormat, 14}, "fee a when 1: 1.5": {api.ErrFormat, 15}, "fee a when 1: 1.05 %;": {api.ErrFormat, 16}, "fee a when 1: 1 .5%;": {api.ErrFormat, 16}, "fee a when 1: 1.5%": {api.ErrFormat, 18}, "fee a when 1: 1% min;": {api.ErrFormat, 20}, "fee a when 1: 1% +": {api.ErrFormat, 18},
		"fee a when 1: 1% max 5 min 5;": {api.ErrFormat, 23}, "fee a when 1: 1% + 1%;": {api.ErrFormat, 20}, "fee a when 1: 1%; fee a": {api.ErrExists, 22}, "fee a when 1: 1%;; 01": {api.ErrFormat, 19}, "fee a when 1: 99999999999999999999%;": {api.ErrRange, 14}, "fee a when a1.5%: 1%;": {api.ErrFormat, 13}, "fee a when \"1.5%": {api.ErrFormat, 11}, many + "fee": {api.ErrLong, len(many)}, many + "fees": {api.ErrFormat, len(many)}, strings.Repeat(" ", 4001): {api.ErrLong, 0}, "fee a when 1: 01.5%;": {api.ErrFormat, 14}, "fee a when _1.5%": {api.ErrFormat, 11}, "1.5%": {api.ErrFormat, 0},
	} {
		if l, e, at := Parse(s); l != nil || e != want.e || at != want.at {
			t.Error(s, l, e, at)
		}
	}
}

func TestP37_2Format(t *testing.T) {
	rule := func(name string) api.FeeRule { return api.FeeRule{Name: name, When: when(t, "a = 1")} }
	full := rule("a")
	full.Bps, full.Fixed, full.Min, full.Max = 120, 5, 6, 7
	if s := Format([]api.FeeRule{full, rule("b")}); s != "fee a when a = 1: 1.2% + 5 min 6 max 7;\nfee b when a = 1: 0%;\n" {
		t.Error(s)
	}
	with := func(f func(r *api.FeeRule)) []api.FeeRule {
		r := rule("a")
		f(&r)
		return []api.FeeRule{r}
	}
	for i, l := range [][]api.FeeRule{nil, {rule("max")}, {rule("sum")}, {rule("a-b")}, {rule("a"), rule("a")}, with(func(r *api.FeeRule) { r.When = api.Expr{} }), with(func(r *api.FeeRule) { r.Bps = 10001 }), with(func(r *api.FeeRule) { r.Bps = -1 }), with(func(r *api.FeeRule) { r.Fixed = -1 }), with(func(r *api.FeeRule) { r.Min = 1<<53 + 1 }), with(func(r *api.FeeRule) { r.Max = -1 }), make([]api.FeeRule, 65)} {
		if s := Format(l); s != "" {
			t.Error(i, s)
		}
	}
	var l []api.FeeRule
	for i := range 65 {
		l = append(l, rule("r"+strconv.Itoa(i)))
	}
	if Format(l) != "" || Format(l[:64]) == "" {
		t.Error("number of rules")
	}
}

func TestP37_3Percent(t *testing.T) {
	for bps, want := range map[int]string{0: "0%", 5: "0.05%", 50: "0.5%", 120: "1.2%", 10000: "100%", 9999: "99.99%", 10001: "", -1: "", 100: "1%"} {
		if Percent(bps) != want {
			t.Error(bps, Percent(bps))
		}
	}
	for bps := range 10001 {
		if n, e := ParsePercent(Percent(bps)); n != bps || e != api.OK {
			t.Fatal(bps, n, e)
		}
	}
	for s, want := range map[string]api.Errno{
		"": api.ErrShort, "1.20%": api.ErrFormat, "100.01%": api.ErrRange, "1": api.ErrFormat, "%": api.ErrFormat, "01%": api.ErrFormat, "-1%": api.ErrFormat, "+1%": api.ErrFormat, "1.%": api.ErrFormat, ".5%": api.ErrFormat, "1.0%": api.ErrFormat, "1.234%": api.ErrFormat, "1.2.3%": api.ErrFormat, "1%%": api.ErrFormat, "1 %": api.ErrFormat, "1.-5%": api.ErrFormat, "101%": api.ErrRange, "1000%": api.ErrRange, strings.Repeat("9", 5000) + ".99%": api.ErrRange, strings.Repeat("9", 50) + ".90%": api.ErrFormat, "0000%": api.ErrFormat,
	} {
		if n, e := ParsePercent(s); n != 0 || e != want {
			t.Error(s, n, e)
		}
	}
}
