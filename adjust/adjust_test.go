package adjust

import (
	"testing"

	"cardnet/api"
	"cardnet/dispute"
)

func rec() api.Record {
	return api.Record{Kind: api.RcPresent, Id: "p", Auth: "a", Acquirer: "shop", Issuer: "bank", Merchant: "m", Card: "4000000000000077", Amount: api.Money{Amount: 1000, Currency: "EUR"}, Date: 10, Category: 7}
}

func dcase() api.Case {
	return api.Case{Id: "d", Record: "p", Amount: api.Money{Amount: 600, Currency: "EUR"}}
}

func TestP47_1Holder(t *testing.T) {
	for stage, want := range map[int]int{-1: 0, 0: 2, 1: 1, 2: 2, 3: 2, 4: 2, 5: 1, 6: 2, 7: 0} {
		if Holder(stage) != want {
			t.Error(stage, Holder(stage))
		}
	}
}

func TestP47_2Move(t *testing.T) {
	want := rec()
	want.Kind, want.Id, want.Auth, want.Amount.Amount, want.Date, want.Final = api.RcChargeback, "d-1", "", 600, 20, true
	if r, ok, e := Move(dcase(), rec(), 0, api.DsChargeback, 20, 1); r != want || !ok || e != api.OK {
		t.Error(r, ok, e)
	}
	want.Kind, want.Id = api.RcRepresent, "d-99"
	if r, ok, e := Move(dcase(), rec(), 1, 2, 20, 99); r != want || !ok || e != api.OK {
		t.Error(r, ok, e)
	}
	withCase := func(f func(c *api.Case)) api.Case {
		c := dcase()
		f(&c)
		return c
	}
	withRec := func(f func(r *api.Record)) api.Record {
		r := rec()
		f(&r)
		return r
	}
	for i, c := range []struct {
		c                 api.Case
		r                 api.Record
		from, to, date, n int
		moves             bool
		want              api.Errno
	}{
		{dcase(), rec(), 2, 3, 10, 1, false, api.OK}, {dcase(), rec(), 3, 5, 10, 1, true, api.OK}, {dcase(), rec(), 1, 5, 10, 1, false, api.OK}, {dcase(), rec(), 4, 6, api.MaxDate, 1, false, api.OK}, {dcase(), api.Record{}, -1, 1, 0, 0, false, api.ErrRange}, {dcase(), api.Record{}, 7, 1, 0, 0, false, api.ErrRange}, {dcase(), api.Record{}, 0, 0, 0, 0, false, api.ErrRange}, {dcase(), api.Record{}, 0, 7, 0, 0, false, api.ErrRange},
		{dcase(), api.Record{}, 1, 4, 0, 0, false, api.ErrState}, {dcase(), api.Record{}, 0, 2, 0, 0, false, api.ErrState}, {dcase(), api.Record{}, 5, 5, 0, 0, false, api.ErrState}, {dcase(), api.Record{}, 1, 1, 0, 0, false, api.ErrState}, {api.Case{}, withRec(func(r *api.Record) { r.Card = "" }), 0, 1, 0, 0, false, api.ErrCard}, {api.Case{}, withRec(func(r *api.Record) { r.Kind = api.RcRefund }), 0, 1, 0, 0, false, api.ErrRange}, {api.Case{}, rec(), 0, 1, 0, 0, false, api.ErrNone},
		{withCase(func(c *api.Case) { c.Amount.Currency = "USD" }), rec(), 0, 1, 0, 0, false, api.ErrCurrency}, {withCase(func(c *api.Case) { c.Amount.Amount = 0 }), rec(), 0, 1, 0, 1, false, api.ErrRange}, {withCase(func(c *api.Case) { c.Amount.Amount = 1001 }), rec(), 0, 1, 0, 1, false, api.ErrRange}, {dcase(), rec(), 0, 1, 0, 0, false, api.ErrRange}, {dcase(), rec(), 0, 1, 0, 100, false, api.ErrRange}, {dcase(), rec(), 0, 1, 9, 1, false, api.ErrTime}, {dcase(), rec(), 2, 3, api.MaxDate + 1, 1, false, api.ErrTime},
		{withCase(func(c *api.Case) { c.Id = "a b" }), rec(), 0, 1, 20, 1, false, api.ErrName}, {withCase(func(c *api.Case) { c.Id = "abcdefghijklmno" }), rec(), 2, 3, 20, 1, false, api.ErrName}, {withCase(func(c *api.Case) { c.Id = "abcdefghijklmn" }), rec(), 0, 1, 20, 1, true, api.OK},
	} {
		r, ok, e := Move(c.c, c.r, c.from, c.to, c.date, c.n)
		if ok != c.moves || e != c.want || !ok && r != (api.Record{}) {
			t.Error(i, r, ok, e)
		}
	}
}

func TestP47_3P47_6P47_7Moves(t *testing.T) {
	l, e := Moves(dcase(), rec(), []int{1, 2, 3, 5}, 20)
	if len(l) != 3 || l[0].Id != "d-1" || l[0].Kind != api.RcChargeback || l[1].Id != "d-2" || l[1].Kind != api.RcRepresent || l[2].Id != "d-3" || Net(l) != 600 || e != api.OK {
		t.Error(l, e)
	}
	for i, c := range []struct {
		stages []int
		want   api.Errno
	}{{nil, api.OK}, {[]int{1, 2, 5}, api.ErrState}, {[]int{2}, api.ErrState}, {[]int{1, 9}, api.ErrRange}} {
		if l, e := Moves(dcase(), rec(), c.stages, 20); l != nil || e != c.want {
			t.Error(i, l, e)
		}
	}
	var walk func(stages []int)
	walk = func(stages []int) {
		l, e := Moves(dcase(), rec(), stages, 20)
		last := stages[len(stages)-1]
		want := int64(0)
		if Holder(last) == 1 {
			want = 600
		}
		c := dcase()
		c.Stage = last
		if e != api.OK || len(l) > 3 || Net(l) != want || !Final(c, l) {
			t.Error(stages, l, e)
		}
		for event := 1; event <= 7; event++ {
			if next, e := dispute.Next(last, event); e == api.OK {
				walk(append(append([]int{}, stages...), next))
			}
		}
	}
	walk([]int{1})
}

func TestP47_4P47_5Final(t *testing.T) {
	r := func(kind int, amount int64) api.Record {
		return api.Record{Kind: kind, Amount: api.Money{Amount: amount, Currency: "EUR"}}
	}
	if n := Net([]api.Record{r(3, 10), r(4, 3), r(1, 99), r(3, 0), r(3, -5), r(4, api.MaxAmount+1), r(3, 1)}); n != 8 || Net(nil) != 0 {
		t.Error(n)
	}
	for i, c := range []struct {
		stage int
		l     []api.Record
		want  bool
	}{{0, nil, true}, {2, nil, true}, {1, nil, false}, {9, nil, false}, {1, []api.Record{r(3, 600)}, true}, {6, []api.Record{r(3, 600)}, false}, {6, []api.Record{r(3, 600), r(4, 600)}, true}, {5, []api.Record{r(3, 600), r(4, 600), r(3, 600)}, true}, {5, []api.Record{r(3, 600), r(3, 600)}, false}, {6, []api.Record{r(4, 600)}, false}, {1, []api.Record{r(3, 599)}, false}, {5, []api.Record{r(1, 600)}, false}} {
		x := dcase()
		x.Stage = c.stage
		if Final(x, c.l) != c.want {
			t.Error(i)
		}
	}
}
