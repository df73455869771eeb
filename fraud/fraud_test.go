package fraud

import (
	"slices"
	"strconv"
	"strings"
	"testing"

	"cardnet/api"
	"cardnet/ruletext"
)

func rules(t *testing.T, s string) []api.Rule {
	t.Helper()
	l, e, at := ruletext.Parse(s)
	if e != api.OK {
		t.Fatal(s, e, at)
	}
	return l
}

func engine(t *testing.T, s string, refer, decline int) *Engine {
	t.Helper()
	x, e := New(rules(t, s), refer, decline)
	if e != api.OK {
		t.Fatal(e)
	}
	return x
}

func sale(card, merchant string, amount int64) []api.Feature {
	return []api.Feature{{Name: "card", Kind: api.TText, Text: card}, {Name: "merchant", Kind: api.TText, Text: merchant}, {Name: "amount", Kind: api.TNumber, N: amount}}
}

func judge(t *testing.T, x *Engine, at int, l []api.Feature, want string) {
	t.Helper()
	if v, e := x.Judge(at, l); Explain(v) != want || e != api.OK {
		t.Error(at, Explain(v), e, want)
	}
}

func TestP26_1New(t *testing.T) {
	r := rules(t, "rule a when 1 = 1: pass;")[0]
	change := func(f func(r *api.Rule)) []api.Rule {
		c := r
		f(&c)
		c2 := r
		c2.Name = "b"
		return []api.Rule{c2, c}
	}
	for i, c := range []struct {
		l              []api.Rule
		refer, decline int
		want           api.Errno
	}{
		{nil, 1, 1000000, api.OK}, {make([]api.Rule, 65), 0, 0, api.ErrLong}, {change(func(r *api.Rule) { r.Name = "a-b" }), 0, 0, api.ErrName}, {change(func(r *api.Rule) { r.Name, r.Action = "b", 9 }), 0, 0, api.ErrExists}, {change(func(r *api.Rule) { r.Action = 3 }), 5, 5, api.ErrRange}, {change(func(r *api.Rule) { r.Action = -1 }), 5, 5, api.ErrRange}, {change(func(r *api.Rule) { r.Score = 1001 }), 5, 5, api.ErrRange}, {change(func(r *api.Rule) { r.Score = -1 }), 5, 5, api.ErrRange},
		{nil, 0, 5, api.ErrRange}, {nil, 6, 5, api.ErrRange}, {nil, 6, 1000001, api.ErrRange}, {change(func(r *api.Rule) { r.When = api.Expr{} }), 0, 5, api.ErrRange}, {change(func(r *api.Rule) { r.When = api.Expr{} }), 5, 5, api.ErrFormat}, {change(func(r *api.Rule) { r.When = api.Expr{Op: api.XName, Name: "x"} }), 5, 5, api.ErrNone}, {change(func(r *api.Rule) { r.When = api.Expr{Op: api.XName, Name: "amount"} }), 5, 5, api.ErrType}, {change(func(r *api.Rule) { r.When = api.Expr{Op: api.XName, Name: "token"} }), 5, 5, api.OK},
		{rules(t, "rule a when 1 = 1: pass; rule rules when count(amount, 5) < 1: pass;"), 5, 5, api.ErrType},
	} {
		if x, e := New(c.l, c.refer, c.decline); e != c.want || (x == nil) != (e != api.OK) {
			t.Error(i, e)
		}
	}
}

func TestP26_2P26_6Judge(t *testing.T) {
	x := engine(t, "rule many when 2 <= count(card, 60): refer score 30; rule large when 1000 < amount: pass score 80;", 50, 100)
	judge(t, x, 0, sale("c", "m", 2000), "refer 80 large")
	judge(t, x, 0, sale("c", "m", 1000), "pass 0")
	if x.Record(10, sale("c", "m", 5), 5) != api.OK || x.Record(20, sale("c", "m", 5), 5) != api.OK || x.Record(20, sale("d", "m", 5), 5) != api.OK {
		t.Error("Record")
	}
	judge(t, x, 30, sale("c", "m", 2000), "decline 110 many large")
	judge(t, x, 30, sale("c", "m", 1), "refer 30 many")
	judge(t, x, 69, sale("c", "m", 2000), "decline 110 many large")
	judge(t, x, 70, sale("c", "m", 2000), "refer 80 large")
	judge(t, x, 80, sale("c", "m", 2000), "refer 80 large")
	judge(t, x, 30, sale("d", "m", 2000), "refer 80 large")
	judge(t, x, 30, nil, "pass 0")
	judge(t, x, 30, []api.Feature{{Name: "amount", Kind: api.TNumber, N: 5000}}, "refer 80 large")
	judge(t, x, 30, []api.Feature{{Name: "amount", Kind: api.TNumber, N: 5000}, {Name: "amount", Kind: api.TNumber}}, "pass 0")
	for _, at := range []int{-1, api.MaxTime + 1} {
		if v, e := x.Judge(at, nil); v.Action != 0 || v.Fired != nil || e != api.ErrTime {
			t.Error(at, e)
		}
	}
	b := engine(t, "rule a when token: decline;", 50, 100)
	judge(t, b, 0, []api.Feature{{Name: "token", Kind: api.TNumber, N: 1}}, "pass 0")
	judge(t, b, 0, []api.Feature{{Name: "token", Kind: api.TBool, N: 1}}, "decline 0 a")
	d := engine(t, "rule a when 1 = 1: decline; rule b when 5 < sum(merchant, 10): pass score 49;", 50, 100)
	judge(t, d, 0, sale("c", "m", 2000), "decline 0 a")
	d.Record(3, sale("c", "m", 1), 6)
	judge(t, d, 12, sale("x", "m", 2000), "decline 49 a b")
	judge(t, d, 13, sale("x", "m", 2000), "decline 0 a")
}

func TestP26_3Record(t *testing.T) {
	x := engine(t, "rule a when count(card, 100) < 1 and count(merchant, 50) < 1: pass score 1;", 50, 100)
	long := strings.Repeat("c", 36)
	for i, e := range []api.Errno{x.Record(-1, nil, -1), x.Record(api.MaxTime+1, nil, 0), x.Record(5, nil, -1), x.Record(5, nil, api.MaxAmount+1), x.Record(5, sale(long, "m", 1), 1), x.Record(5, sale(long[1:], "m", 1), 1), x.Record(4, sale("c", "m", 1), -1), x.Record(6, nil, 0), x.Record(5, sale("c", "m", 1), 1)} {
		if e != []api.Errno{api.ErrTime, api.ErrTime, api.ErrRange, api.ErrRange, api.ErrName, api.OK, api.ErrTime, api.OK, api.ErrTime}[i] {
			t.Error(i, e)
		}
	}
	for i := range 498 {
		if e := x.Record(6, sale("c", "m", 1), 1); e != api.OK {
			t.Error(i, e)
		}
	}
	card := sale("c", "m", 1)[:1]
	if x.Record(104, card, 1) != api.OK || x.Record(104, sale("c", "m", 1), 1) != api.ErrFull || x.Record(104, card, 1) != api.OK || x.Record(104, card, 1) != api.ErrFull || x.Record(104, nil, 1) != api.OK {
		t.Error("full windows")
	}
	judge(t, x, 55, sale("x", "y", 1), "pass 1 a")
	judge(t, x, 55, sale("c", "y", 1), "pass 0")
	if x.Record(105, sale("c", "m", 1), 1) != api.OK {
		t.Error("uses that are too old make room")
	}
	judge(t, x, 5, sale(long[1:], "y", 1), "pass 1 a")
}

func TestP26_4P26_7Undo(t *testing.T) {
	x := engine(t, "rule a when count(card, 100) < 2 and count(merchant, 50) < 2: pass score 1;", 50, 100)
	x.Record(5, sale("c", "m", 1), 7)
	x.Record(6, sale("c", "m", 1), 7)
	judge(t, x, 6, sale("c", "x", 1), "pass 0")
	for i, e := range []api.Errno{x.Undo(6, sale("c", "other", 1), 7), x.Undo(6, sale("c", "m", 1), 8), x.Undo(7, sale("c", "m", 1), 7), x.Undo(9, nil, 1)} {
		if e != []api.Errno{api.ErrNone, api.ErrNone, api.ErrNone, api.OK}[i] {
			t.Error(i, e)
		}
	}
	judge(t, x, 6, sale("c", "x", 1), "pass 0")
	if x.Undo(6, sale("c", "m", 1), 7) != api.OK || x.Undo(6, sale("c", "m", 1), 7) != api.ErrNone {
		t.Error("Undo")
	}
	judge(t, x, 6, sale("c", "x", 1), "pass 1 a")
	judge(t, x, 6, sale("y", "m", 1), "pass 1 a")
	if x.Record(5, nil, 0) != api.ErrTime {
		t.Error("the last time is that of a Record that was undone")
	}
}

func TestP26_5Queries(t *testing.T) {
	x := engine(t, "rule a when count(terminal, 5) < sum(card, 9): pass; rule b when count(card, 1) < 1: pass;", 1, 1)
	if l := x.Tracked(); !slices.Equal(l, []string{"card", "terminal"}) {
		t.Error(l)
	}
	for s, v := range map[string]api.Verdict{"pass 0": {}, "refer -5 a b": {Action: api.Refer, Score: -5, Fired: []string{"a", "b"}}, "decline 7": {Action: api.Decline, Score: 7}, "": {Action: 3, Score: 7}} {
		if Explain(v) != s {
			t.Error(s, Explain(v))
		}
	}
	m := api.Message{}
	for n := range 101 {
		m.Elements = append(m.Elements, api.Element{Number: n, Value: strconv.Itoa(n)})
	}
	got := ""
	for _, f := range append(Features(m), Features(api.Message{Elements: []api.Element{{Number: 4, Value: "x"}}})...) {
		got += f.Name + " " + strconv.Itoa(f.Kind) + " " + strconv.FormatInt(f.N, 10) + f.Text + ", "
	}
	if got != "card 2 02, merchant 2 042, acquirer 2 032, currency 2 049, terminal 2 041, amount 1 4, category 1 18, sent 1 7, token 3 1, card 2 0, merchant 2 0, acquirer 2 0, currency 2 0, terminal 2 0, amount 1 0, category 1 0, sent 1 0, token 3 0, " {
		t.Error(got)
	}
	var none *Engine
	if _, e := none.Judge(0, nil); e != api.ErrNone || none.Record(0, nil, 0) != api.ErrNone || none.Undo(0, nil, 0) != api.ErrNone || none.Tracked() != nil {
		t.Error("nil engine")
	}
	empty := &Engine{}
	empty.Judge(0, sale("c", "m", 1))
	empty.Record(0, sale("c", "m", 1), 1)
	empty.Undo(0, sale("c", "m", 1), 1)
}
