package ruletext

import (
	"strconv"
	"strings"
	"testing"

	"cardnet/api"
	"cardnet/expr"
)

func n(x int64) api.Expr     { return api.Expr{Op: api.XNumber, N: x} }
func name(s string) api.Expr { return api.Expr{Op: api.XName, Name: s} }

func same(a, b []api.Rule) bool {
	if len(a) != len(b) {
		return false
	}
	for i := range a {
		if a[i].Name != b[i].Name || a[i].Action != b[i].Action || a[i].Score != b[i].Score || !expr.Same(a[i].When, b[i].When) {
			return false
		}
	}
	return true
}

func TestP25_1Parse(t *testing.T) {
	l, e, at := Parse("rule big when amount <= 100 or not token: refer score 5; # more\nrule b when 1=1 : pass;rule c when x:decline score 0;")
	want := []api.Rule{{Name: "big", When: join(api.XOr, join(api.XLe, name("amount"), n(100)), join(api.XNot, name("token"))), Action: api.Refer, Score: 5}, {Name: "b", When: join(api.XEq, n(1), n(1))}, {Name: "c", When: name("x"), Action: api.Decline}}
	if !same(l, want) || e != api.OK || at != 0 {
		t.Error(l, e, at)
	}
	if l, e, at := Parse(" # none"); len(l) != 0 || e != api.OK || at != 0 {
		t.Error(l, e, at)
	}
	many := ""
	for i := range 64 {
		many += "rule r" + strconv.Itoa(10+i) + " when a:pass;"
	}
	if l, e, _ := Parse(many); len(l) != 64 || e != api.OK {
		t.Error(e)
	}
	for s, want := range map[string]struct {
		e  api.Errno
		at int
	}{
		"rule when when 1 = 1: pass;": {api.ErrFormat, 5}, "rule a": {api.ErrFormat, 6}, "x": {api.ErrFormat, 0}, "rule 1": {api.ErrFormat, 5}, "rule a 1": {api.ErrFormat, 7}, "rule a when": {api.ErrFormat, 11}, "rule a when 1": {api.ErrFormat, 13}, "rule a when 1:": {api.ErrFormat, 14}, "rule a when 1: go;": {api.ErrFormat, 15}, "rule a when 1: pass": {api.ErrFormat, 19},
		"rule a when 1: pass score;": {api.ErrFormat, 25}, "rule a when 1: pass score 1001;": {api.ErrFormat, 26}, "rule a when 1: pass score 1000": {api.ErrFormat, 30}, "rule a when 1: pass; rule a when": {api.ErrExists, 26}, "rule a when 1: pass; rule or when": {api.ErrFormat, 26}, "rule a when 1: pass; ;": {api.ErrFormat, 21}, "rule a when 1:: pass; 01": {api.ErrFormat, 22}, "rule a when 99999999999999999:": {api.ErrRange, 12},
		many + "rule": {api.ErrLong, len(many)}, many + "rulex": {api.ErrFormat, len(many)}, strings.Repeat(" ", 4001): {api.ErrLong, 0}, "rule pass when a: pass;": {api.ErrFormat, 5},
	} {
		if l, e, at := Parse(s); l != nil || e != want.e || at != want.at {
			t.Error(s, l, e, at)
		}
	}
}

func TestP25_2Format(t *testing.T) {
	rule := func(s string) api.Rule { return api.Rule{Name: s, When: name("x")} }
	if s := Format([]api.Rule{{Name: "a", When: name("x"), Action: api.Decline, Score: 7}, rule("b")}); s != "rule a when x: decline score 7;\nrule b when x: pass;\n" {
		t.Error(s)
	}
	if Format(nil) != "" {
		t.Error("no rules")
	}
	for i, l := range [][]api.Rule{{rule("rule")}, {rule("")}, {rule("a-b")}, {rule("a"), rule("a")}, {{Name: "a"}}, {{Name: "a", When: name("x"), Action: 3}}, {{Name: "a", When: name("x"), Action: -1}}, {{Name: "a", When: name("x"), Score: -1}}, {{Name: "a", When: name("x"), Score: 1001}}} {
		if s := Format(l); s != "" {
			t.Error(i, s)
		}
	}
	var l []api.Rule
	for i := range 65 {
		l = append(l, rule("r"+strconv.Itoa(i)))
	}
	if Format(l) != "" || Format(l[:64]) == "" {
		t.Error("number of rules")
	}
}

func TestP25_3P25_4P25_5P25_6Expr(t *testing.T) {
	for s, want := range map[string]string{
		"a - b - c * 2": "", "(a)": "a", "a = 1 and not (b or c)": "", "-x * (y + 1)": "", "count(card, 60) <= 3": "", "country in (\"DE\", \"FR\")": "", "(a = b) = c": "", "a - (b - c)": "", "a - (b + c)": "", "a * (b * c)": "", "(a * b) * c": "a * b * c", "a or (b or c)": "", "a and (b and c)": "", "(a or b) and c": "", "a or b and c": "", "not not a": "", "--a": "", "- -a": "--a", "a - -b": "",
		"not a = b": "", "not (a = b)": "", "-(a * b)": "", "(-a) * b": "-a * b", "-(a in (1))": "", "(a or b) in (c, (d and e))": "", "((a)) in(b+1,2)": "a in (b + 1, 2)", "a in (1) and b": "", "(a in (1)) in (2)": "", "sum( card ,0)#x": "sum(card, 0)", "\"a b\"!=\"\"": "\"a b\" != \"\"", "9007199254740992": "", "a<b": "a < b", "(a and b) or c": "a and b or c", "(1 + 2) * 3": "", "1 + 2 * 3": "", "not (-a)": "not -a", "-(not a)": "-not a", "(not a) + 1": "not a + 1", "not (a + 1)": "",
	} {
		if want == "" {
			want = s
		}
		e, err, at := ParseExpr(s)
		if got := Expr(e); got != want || err != api.OK || at != 0 {
			t.Error(s, got, err, at)
		}
		if again, err, _ := ParseExpr(want); !expr.Same(again, e) || err != api.OK {
			t.Error(s, again)
		}
		rules := []api.Rule{{Name: "a", When: e, Action: api.Refer, Score: 1000}}
		if again, err, _ := Parse(Format(rules)); !same(again, rules) || err != api.OK {
			t.Error(s, again)
		}
	}
	if e, _, _ := ParseExpr("a - b - c * 2"); !expr.Same(e, join(api.XSub, join(api.XSub, name("a"), name("b")), join(api.XMul, name("c"), n(2)))) {
		t.Error(e)
	}
	for s, want := range map[string]struct {
		e  api.Errno
		at int
	}{
		"": {api.ErrFormat, 0}, " ": {api.ErrFormat, 1}, "a = b = c": {api.ErrFormat, 6}, "a b": {api.ErrFormat, 2}, "a +": {api.ErrFormat, 3}, "(a": {api.ErrFormat, 2}, "a)": {api.ErrFormat, 1}, "in": {api.ErrFormat, 0}, "a in 1": {api.ErrFormat, 5}, "a in ()": {api.ErrFormat, 6}, "a in (1,)": {api.ErrFormat, 8}, "a in (1": {api.ErrFormat, 7}, "a in (1 = 2)": {api.ErrFormat, 8}, "count card": {api.ErrFormat, 6}, "count(1": {api.ErrFormat, 6}, "count(sum, 1)": {api.ErrFormat, 6},
		"count(a 1)": {api.ErrFormat, 8}, "sum(a, b)": {api.ErrFormat, 7}, "sum(a, 1": {api.ErrFormat, 8}, "a > b": {api.ErrFormat, 2}, "a %": {api.ErrFormat, 2}, "rule": {api.ErrFormat, 0}, "a ?": {api.ErrFormat, 2}, "a + * 01": {api.ErrFormat, 6}, "not": {api.ErrFormat, 3}, strings.Repeat("(", 4000): {api.ErrFormat, 4000}, "a and or b": {api.ErrFormat, 6},
	} {
		if e, err, at := ParseExpr(s); !expr.Same(e, api.Expr{}) || err != want.e || at != want.at {
			t.Error(s, e, err, at)
		}
	}
	if e, err, _ := ParseExpr(strings.Repeat("-", 3999) + "a"); expr.Levels(e) != 4000 || err != api.OK {
		t.Error(err)
	}
}

func TestP25_4Writable(t *testing.T) {
	for i, e := range []api.Expr{
		{}, {Op: 99}, n(-1), n(1<<53 + 1), {Op: api.XNumber, Name: "a"}, {Op: api.XNumber, Text: "a"}, {Op: api.XText, Text: "\""}, {Op: api.XText, Text: "\n"}, {Op: api.XText, Text: strings.Repeat("a", 101)}, {Op: api.XText, N: 1}, name(""), name("and"), name("a-b"), {Op: api.XName, Name: "a", N: 1}, join(api.XNot), join(api.XNot, name("a"), name("b")), join(api.XAnd, name("a")),
		{Op: api.XAdd, Name: "a", Args: []api.Expr{n(1), n(1)}}, join(api.XIn, n(1)), join(api.XEq, n(1), n(1), n(1)), {Op: api.XCount, Name: "a", N: -1}, {Op: api.XSum, Name: "sum", N: 1}, {Op: api.XSum, N: 1}, {Op: api.XCount, Name: "a", Args: []api.Expr{n(1)}}, join(api.XAnd, name("a"), n(-1)), {Op: api.XName, Name: "a", Text: "b"},
	} {
		if s := Expr(e); s != "" {
			t.Error(i, s)
		}
	}
	if Expr(api.Expr{Op: api.XCount, Name: "a"}) != "count(a, 0)" || Expr(n(1<<53)) != "9007199254740992" || Expr(api.Expr{Op: api.XText}) != "\"\"" {
		t.Error("least and greatest values")
	}
}
