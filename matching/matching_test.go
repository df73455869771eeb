package matching

import (
	"slices"
	"testing"

	"cardnet/api"
	"cardnet/auth"
)

var tolerance = Tolerance{Bps: 1500, Fixed: 20}

func of(t *testing.T, id string) api.Auth {
	t.Helper()
	a, e := auth.New(id, "EUR", 1000, 50, 90)
	if e != api.OK {
		t.Fatal(e)
	}
	return a
}

func rec(id string, amount int64, final bool) api.Record {
	return api.Record{Kind: api.RcPresent, Id: "r-" + id, Auth: id, Acquirer: "shop", Issuer: "bank", Merchant: "m", Card: "4000000000000077", Amount: api.Money{Amount: amount, Currency: "EUR"}, Final: final}
}

func TestP35_1Allowed(t *testing.T) {
	for i, c := range []struct {
		approved int64
		t        Tolerance
		want     int64
		e        api.Errno
	}{{1000, tolerance, 170, api.OK}, {999, Tolerance{1, 0}, 0, api.OK}, {19999, Tolerance{1, 0}, 1, api.OK}, {0, tolerance, 20, api.OK}, {api.MaxAmount, Tolerance{10000, api.MaxAmount}, 2 * api.MaxAmount, api.OK}, {-1, tolerance, 0, api.ErrRange}, {api.MaxAmount + 1, tolerance, 0, api.ErrRange}, {1, Tolerance{-1, 0}, 0, api.ErrRange}, {1, Tolerance{10001, 0}, 0, api.ErrRange}, {1, Tolerance{0, -1}, 0, api.ErrRange}, {1, Tolerance{0, api.MaxAmount + 1}, 0, api.ErrRange}} {
		if n, e := Allowed(c.approved, c.t); n != c.want || e != c.e {
			t.Error(i, n, e)
		}
	}
}

func TestP35_2P35_3P35_6Apply(t *testing.T) {
	a := of(t, "a")
	part, _, _, _ := auth.Clear(a, 400, false)
	closed, _, _ := auth.Reverse(a, 0)
	full := a
	for range api.MaxParts {
		full, _, _, _ = auth.Clear(full, 1, false)
	}
	broken := a
	broken.State = 0
	for i, c := range []struct {
		a                      api.Auth
		change                 func(r *api.Record)
		amount                 int64
		final                  bool
		used, released, excess int64
		want                   api.Errno
	}{
		{a, nil, 400, false, 400, 0, 0, api.OK}, {part, nil, 700, false, 0, 0, 0, api.ErrTolerance}, {part, nil, 700, true, 600, 0, 100, api.OK}, {a, nil, 300, true, 300, 700, 0, api.OK}, {a, nil, 1170, true, 1000, 0, 170, api.OK}, {a, nil, 1171, true, 0, 0, 0, api.ErrTolerance}, {a, nil, 1000, false, 1000, 0, 0, api.OK}, {a, nil, 1001, false, 0, 0, 0, api.ErrTolerance}, {part, nil, 770, true, 600, 0, 170, api.OK},
		{broken, func(r *api.Record) { r.Id = "" }, 5, true, 0, 0, 0, api.ErrName}, {broken, func(r *api.Record) { r.Kind = api.RcRefund }, 5, true, 0, 0, 0, api.ErrRange}, {broken, func(r *api.Record) { r.Auth = "b" }, 5, true, 0, 0, 0, api.ErrState}, {closed, func(r *api.Record) { r.Auth, r.Amount.Currency = "b", "USD" }, 5, true, 0, 0, 0, api.ErrMatch}, {closed, func(r *api.Record) { r.Amount.Currency = "USD" }, 5, true, 0, 0, 0, api.ErrCurrency}, {closed, nil, 5000, false, 0, 0, 0, api.ErrState}, {full, nil, 5000, false, 0, 0, 0, api.ErrLimit},
	} {
		r := rec("a", c.amount, c.final)
		if c.change != nil {
			c.change(&r)
		}
		o, e := Apply(c.a, r, tolerance)
		if o.Used != c.used || o.Released != c.released || o.Excess != c.excess || e != c.want {
			t.Error(i, o, e)
		}
		if e == api.OK && (auth.Check(o.Auth) != api.OK || auth.Open(c.a)-auth.Open(o.Auth) != o.Used+o.Released) || e != api.OK && o != (Outcome{}) {
			t.Error(i, o)
		}
		if c.change == nil {
			if k, f := Match([]api.Auth{of(t, "x"), c.a, a}, r, tolerance); f != c.want || f == api.OK && k != 1 || f != api.OK && k != 0 {
				t.Error(i, k, f)
			}
		}
	}
	if _, e := Apply(broken, rec("a", 5, true), Tolerance{Bps: -1}); e != api.ErrRange {
		t.Error(e)
	}
}

func TestP35_3Match(t *testing.T) {
	l := []api.Auth{of(t, "a"), {}}
	none := rec("a", 5, true)
	none.Auth = ""
	refund := rec("a", 5, true)
	refund.Kind = api.RcRefund
	invalid := rec("a", 0, true)
	for i, c := range []struct {
		r    api.Record
		t    Tolerance
		want api.Errno
	}{{invalid, Tolerance{Bps: -1}, api.ErrRange}, {refund, tolerance, api.ErrRange}, {none, Tolerance{Bps: -1}, api.ErrRange}, {none, tolerance, api.ErrMatch}, {rec("b", 5, true), tolerance, api.ErrMatch}, {rec("a", 5, true), tolerance, api.OK}} {
		if k, e := Match(l, c.r, c.t); k != 0 || e != c.want {
			t.Error(i, k, e)
		}
	}
}

func TestP35_4P35_5P35_7P35_8Run(t *testing.T) {
	l := []api.Auth{of(t, "a"), of(t, "b"), of(t, "c")}
	refund := rec("a", 5, true)
	refund.Kind = api.RcRefund
	rs := []api.Record{rec("a", 400, false), rec("a", 0, false), refund, rec("b", 300, true), rec("b", 1, true), rec("x", 1, true), rec("a", 700, true), rec("a", 1, false)}
	after, rejects := Run(l, rs, tolerance)
	want := []api.Reject{{Index: 1, Id: "r-a", Code: api.ErrRange}, {Index: 4, Id: "r-b", Code: api.ErrState}, {Index: 5, Id: "r-x", Code: api.ErrMatch}, {Index: 7, Id: "r-a", Code: api.ErrState}}
	if !slices.Equal(rejects, want) || auth.Open(after[0]) != 0 || after[0].Cleared != 1000 || after[1].Reversed != 700 || after[2] != l[2] || l[0] != of(t, "a") {
		t.Error(after, rejects)
	}
	if ids := Unmatched(after); !slices.Equal(ids, []string{"c"}) || !slices.Equal(Unmatched(l), []string{"a", "b", "c"}) || Unmatched(nil) != nil {
		t.Error(ids)
	}
	if after, rejects := Run(l, []api.Record{rec("a", 5, true), refund}, Tolerance{Bps: -1}); !slices.Equal(after, l) || !slices.Equal(rejects, []api.Reject{{Index: 0, Id: "r-a", Code: api.ErrRange}}) {
		t.Error(after, rejects)
	}
}
