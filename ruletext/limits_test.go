package ruletext

import (
	"strings"
	"testing"

	"cardnet/api"
)

func TestP25_4Limits(t *testing.T) {
	for s, want := range map[string]bool{" ~": true, "\x7f": false, "\x1f": false, strings.Repeat("a", 100): true, strings.Repeat("a", 101): false} {
		if got := Expr(api.Expr{Op: api.XText, Text: s}); (got != "") != want {
			t.Error(s, got)
		}
	}
	if Expr(api.Expr{Op: api.XSum, Name: "a", N: 12}) != "sum(a, 12)" || Expr(api.Expr{Op: api.XCount, Name: "a", N: 12}) != "count(a, 12)" {
		t.Error("windows")
	}
	if s := Format([]api.Rule{{Name: "a", When: name("x"), Score: 1}}); s != "rule a when x: pass score 1;\n" {
		t.Error(s)
	}
	if l, e, at := Parse("rule a when 1: go score 5;"); l != nil || e != api.ErrFormat || at != 15 {
		t.Error(e, at)
	}
}
