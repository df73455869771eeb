package assess

import (
	"strings"
	"testing"

	"cardnet/api"
	"cardnet/feetext"
)

func rules(t *testing.T, s string) []api.FeeRule {
	t.Helper()
	l, e, at := feetext.Parse(s)
	if e != api.OK {
		t.Fatal(s, e, at)
	}
	return l
}

func tables(t *testing.T) Tables {
	return Tables{rules(t, "fee food when category = 5411: 0.5%; fee rest when 1 = 1: 1%;"), rules(t, "fee all when 1 = 1: 0% + 2;"), rules(t, "fee all when 1 = 1: 1.5% min 10;")}
}

func rec(kind int, amount int64, category int) api.Record {
	return api.Record{Kind: kind, Id: "r", Acquirer: "shop", Issuer: "bank", Merchant: "m-1", Card: "4000000000000077", Amount: api.Money{Amount: amount, Currency: "EUR"}, Date: 20, Category: category}
}

func TestP38_1Features(t *testing.T) {
	r := rec(1, 5, 7)
	r.Auth = "x"
	l := Features(r)
	want := []api.Feature{{Name: "kind", Kind: api.TNumber, N: 1}, {Name: "category", Kind: api.TNumber, N: 7}, {Name: "amount", Kind: api.TNumber, N: 5}, {Name: "date", Kind: api.TNumber, N: 20}, {Name: "merchant", Kind: api.TText, Text: "m-1"}, {Name: "issuer", Kind: api.TText, Text: "bank"}, {Name: "acquirer", Kind: api.TText, Text: "shop"}, {Name: "currency", Kind: api.TText, Text: "EUR"}, {Name: "authorized", Kind: api.TBool, N: 1}}
	for i := range want {
		if l[i] != want[i] {
			t.Error(l[i])
		}
	}
	if zero := Features(api.Record{}); len(zero) != 9 || zero[8].N != 0 {
		t.Error(zero)
	}
}

func TestP38_2Check(t *testing.T) {
	good := tables(t)
	all := rules(t, "fee all when 1 = 1: 1%;")
	for i, c := range []struct {
		t    Tables
		want api.Errno
	}{
		{good, api.OK}, {Tables{}, api.ErrNone}, {Tables{good.Interchange[:1], make([]api.FeeRule, 65), nil}, api.ErrNone}, {Tables{all, make([]api.FeeRule, 65), nil}, api.ErrLong}, {Tables{all, all, nil}, api.ErrNone}, {Tables{all, all, rules(t, "fee a when unknown: 1%;")}, api.ErrNone}, {Tables{all, rules(t, "fee a when kind: 1%;"), nil}, api.ErrType}, {Tables{make([]api.FeeRule, 1), nil, nil}, api.ErrName}, {Tables{append(all, all...), nil, nil}, api.ErrExists}, {Tables{rules(t, "fee a when 1 = 1: 0% min 5 max 4;"), nil, nil}, api.ErrRange},
	} {
		if e := Check(c.t); e != c.want {
			t.Error(i, e)
		}
	}
}

func TestP38_3P38_7P38_8Assess(t *testing.T) {
	x, e := Assess(tables(t), rec(api.RcPresent, 1000, 5411))
	if x != (Result{api.FeeLine{Rule: "food", Amount: 5, Why: "category=5411"}, api.FeeLine{Rule: "all", Amount: 2}, api.FeeLine{Rule: "all", Amount: 15}, -1000, 5, 8, 985, 2}) || e != api.OK {
		t.Error(x, e)
	}
	x, e = Assess(tables(t), rec(api.RcRefund, 1000, 7995))
	if x.Interchange.Amount != 10 || x.Cardholder != 1000 || x.Issuer != -10 || x.Network != 2 || x.Shop != -985 || x.Acquirer != -7 || e != api.OK {
		t.Error(x, e)
	}
	for kind := 1; kind <= 4; kind++ {
		for _, amount := range []int64{1, 999, api.MaxAmount} {
			x, e := Assess(tables(t), rec(kind, amount, 5411))
			y, _ := Assess(tables(t), rec(5-kind, amount, 5411))
			if e != api.OK || !Balanced(x) || x.Interchange != y.Interchange || x.Merchant != y.Merchant || x.Network != 2 || (x.Cardholder < 0) != (kind == 1 || kind == 4) {
				t.Error(kind, x, e)
			}
		}
	}
	bad := rec(1, 5, 1)
	bad.Card = ""
	if x, e := Assess(Tables{}, bad); x != (Result{}) || e != api.ErrCard {
		t.Error(x, e)
	}
	if x, e := Assess(Tables{}, rec(1, 5, 1)); x != (Result{}) || e != api.ErrNone {
		t.Error(x, e)
	}
}

func TestP38_4P38_5Sum(t *testing.T) {
	for i, c := range []struct {
		x    Result
		want bool
	}{{Result{}, true}, {Result{Cardholder: -5, Shop: 5}, true}, {Result{Cardholder: 5}, false}, {Result{Cardholder: api.MaxTotal + 1, Issuer: -api.MaxTotal - 1}, false}, {Result{Cardholder: api.MaxTotal, Network: -api.MaxTotal}, true}, {Result{Cardholder: -1 << 63, Issuer: -1 << 63}, false}, {Result{Acquirer: 3, Shop: -4, Network: 1}, true}} {
		if Balanced(c.x) != c.want {
			t.Error(i)
		}
	}
	a, _ := Assess(tables(t), rec(1, 1000, 5411))
	b, _ := Assess(tables(t), rec(2, 400, 1))
	s, e := Sum([]Result{a, b})
	line := func(n int64) api.FeeLine { return api.FeeLine{Rule: "sum", Amount: n} }
	if s != (Result{line(9), line(4), line(25), -600, 1, 0, 595, 4}) || e != api.OK || !Balanced(s) {
		t.Error(s, e)
	}
	if s, e := Sum(nil); s != (Result{Interchange: line(0), Scheme: line(0), Merchant: line(0)}) || e != api.OK {
		t.Error(s, e)
	}
	most, one := Result{Shop: api.MaxTotal}, Result{Shop: 1}
	for i, c := range []struct {
		l    []Result
		want api.Errno
	}{{[]Result{most, one}, api.ErrRange}, {[]Result{most, one, {Shop: -5}}, api.ErrRange}, {[]Result{{Shop: -5}, most, one}, api.OK}, {[]Result{{Merchant: line(-api.MaxTotal - 1)}}, api.ErrRange}, {[]Result{{Issuer: 1<<63 - 1}}, api.ErrRange}} {
		if s, e := Sum(c.l); e != c.want || e != api.OK && s != (Result{}) {
			t.Error(i, s, e)
		}
	}
}

func TestP38_6Explain(t *testing.T) {
	x, _ := Assess(tables(t), rec(api.RcPresent, 1000, 5411))
	if s := Explain(x); s != "interchange food 5 because category=5411\nscheme all 2\nmerchant all 15\ncardholder -1000\nissuer 5\nacquirer 8\nshop 985\nnetwork 2\n" {
		t.Error(s)
	}
	if s := Explain(Result{}); !strings.HasPrefix(s, "interchange  0\nscheme  0\nmerchant  0\ncardholder 0\n") || strings.Count(s, "\n") != 8 {
		t.Error(s)
	}
}
