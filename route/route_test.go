package route

import (
	"slices"
	"testing"

	"cardnet/api"
)

const number = "4000000000000077"

func ranges() []api.Range {
	return []api.Range{{Low: "400000", High: "400999", Issuer: "homebank", Product: "gold"}, {Low: "51", High: "51", Issuer: "farbank", Product: "basic"}}
}

func router(t *testing.T) *Router {
	t.Helper()
	r, e := New(ranges(), []Backup{{"homebank", "helper"}, {"farbank", "homebank"}, {"homebank", "second"}}, 2)
	if e != api.OK {
		t.Fatal(e)
	}
	return r
}

func choice(party string, mode int) Choice {
	return Choice{Issuer: "homebank", Product: "gold", Party: party, Mode: mode}
}

func TestP22_1New(t *testing.T) {
	for i, c := range []struct {
		l        []api.Range
		b        []Backup
		failures int
		want     api.Errno
	}{
		{nil, nil, 1, api.OK}, {[]api.Range{{}}, []Backup{{}}, 0, api.ErrFormat}, {ranges(), []Backup{{"1", "x"}}, 0, api.ErrName}, {ranges(), []Backup{{"homebank", "a-b"}}, 0, api.ErrName}, {ranges(), []Backup{{"other", "other"}}, 0, api.ErrNone}, {ranges(), []Backup{{"homebank", "homebank"}}, 0, api.ErrRange},
		{ranges(), []Backup{{"homebank", "a"}, {"farbank", "a"}, {"homebank", "a"}}, 0, api.ErrExists}, {ranges(), nil, 0, api.ErrRange}, {ranges(), nil, 101, api.ErrRange}, {ranges(), nil, 100, api.OK},
	} {
		if r, e := New(c.l, c.b, c.failures); e != c.want || (r == nil) != (e != api.OK) {
			t.Error(i, e)
		}
	}
}

func choose(t *testing.T, r *Router, want Choice) {
	t.Helper()
	if c, e := r.Choose(number); c != want || e != api.OK {
		t.Error(c, e)
	}
}

func fail(r *Router, parties ...string) {
	for _, p := range parties {
		r.Fail(p)
		r.Fail(p)
	}
}

func TestP22_2P22_8Choose(t *testing.T) {
	r := router(t)
	choose(t, r, choice("homebank", 1))
	r.Fail("homebank")
	choose(t, r, choice("homebank", 1))
	r.Fail("homebank")
	choose(t, r, choice("helper", 2))
	fail(r, "helper")
	choose(t, r, choice("second", 2))
	fail(r, "second")
	choose(t, r, choice("", 3))
	for _, p := range r.Parties() {
		r.Good(p)
	}
	choose(t, r, choice("homebank", 1))
	for s, want := range map[string]api.Errno{"5000000000000009": api.ErrRoute, "4000000000000078": api.ErrChecksum, "": api.ErrShort, "400000000000007x": api.ErrFormat, "40000000000000000000": api.ErrLong} {
		if c, e := r.Choose(s); c != (Choice{}) || e != want {
			t.Error(s, c, e)
		}
	}
}

func after(t *testing.T, r *Router, c, want Choice, we api.Errno) {
	t.Helper()
	if x, e := r.After(c); x != want || e != we {
		t.Error(c, x, e)
	}
}

func TestP22_3P22_7After(t *testing.T) {
	r := router(t)
	after(t, r, choice("homebank", 1), choice("helper", 2), api.OK)
	after(t, r, choice("helper", 2), choice("second", 2), api.OK)
	after(t, r, choice("second", 2), choice("", 3), api.OK)
	after(t, r, choice("", 3), Choice{}, api.ErrNone)
	for _, c := range []Choice{choice("helper", 1), choice("homebank", 2), choice("x", 2), choice("homebank", 0), choice("helper", 3), {Issuer: "x", Party: "x", Mode: 1}, {Issuer: "helper", Party: "helper", Mode: 1}, {Issuer: "farbank", Party: "helper", Mode: 2}} {
		after(t, r, c, Choice{}, api.ErrNone)
	}
	fail(r, "helper")
	after(t, r, choice("homebank", 1), choice("second", 2), api.OK)
	fail(r, "second", "homebank")
	after(t, r, choice("homebank", 1), choice("", 3), api.OK)
	after(t, r, Choice{Issuer: "farbank", Product: "any", Party: "farbank", Mode: 1}, Choice{Issuer: "farbank", Product: "any", Mode: 3}, api.OK)
}

func TestP22_4P22_5P22_6Parties(t *testing.T) {
	r := router(t)
	r.Fail("helper")
	r.Good("helper")
	r.Fail("helper")
	if r.Down("helper") || r.Fail("x") != api.ErrNone || r.Good("x") != api.ErrNone || r.Down("x") || r.Fail("helper") != api.OK || !r.Down("helper") || r.Good("helper") != api.OK || r.Down("helper") {
		t.Error("failures")
	}
	if l := r.Parties(); !slices.Equal(l, []string{"farbank", "helper", "homebank", "second"}) {
		t.Error(l)
	}
	for _, none := range []*Router{nil, {}} {
		_, e := none.Choose(number)
		_, f := none.After(choice("homebank", 1))
		if e == api.OK || f != api.ErrNone || none.Fail("a") != api.ErrNone || none.Good("a") != api.ErrNone || none.Down("a") || none.Parties() != nil {
			t.Error("missing router")
		}
	}
}
