package token

import (
	"slices"
	"testing"

	"cardnet/api"
	"cardnet/pan"
)

const number = "4000000000000077"

var wallet = api.Domain{Requestor: "wallet", Merchant: "m-1", Until: 50}

func vault(t *testing.T) *Vault {
	t.Helper()
	v, e := New("48", 16)
	if e != api.OK {
		t.Fatal(e)
	}
	return v
}

func TestP15_1New(t *testing.T) {
	for _, c := range []struct {
		prefix string
		length int
	}{{"", 16}, {"4a", 16}, {"48", 11}, {"48", 20}} {
		if v, e := New(c.prefix, c.length); v != nil || e != api.ErrRange {
			t.Error(c, e)
		}
	}
	v := vault(t)
	first, _ := pan.Make("48", 0, 16)
	short, _ := pan.Make("48", 0, 15)
	if !v.Is(first) || v.Is(short) || v.Is(number) || v.Is("4800000000000001") || v.Is("") {
		t.Error("Is")
	}
}

func TestP15_2P15_8Provision(t *testing.T) {
	v := vault(t)
	own, _ := pan.Make("48", 77, 16)
	for i, c := range []struct {
		number string
		d      api.Domain
		at     int
		e      api.Errno
	}{
		{"1", api.Domain{}, -1, api.ErrShort}, {"4000000000000078", api.Domain{}, -1, api.ErrChecksum}, {own, api.Domain{}, -1, api.ErrRange}, {number, api.Domain{}, -1, api.ErrName}, {number, api.Domain{Requestor: "a-b"}, 0, api.ErrName}, {number, api.Domain{Requestor: "a", Merchant: "b c"}, -1, api.ErrName},
		{number, wallet, -1, api.ErrTime}, {number, wallet, api.MaxTime + 1, api.ErrTime}, {number, wallet, 50, api.ErrTime}, {number, api.Domain{Requestor: "a", Until: -1}, 0, api.ErrTime}, {number, api.Domain{Requestor: "a", Until: api.MaxTime + 1}, 0, api.ErrTime},
	} {
		if s, e := v.Provision(c.number, c.d, c.at); s != "" || e != c.e {
			t.Error(i, s, e)
		}
	}
	for n := range api.MaxTokens {
		want, _ := pan.Make("48", n, 16)
		if s, e := v.Provision(number, wallet, 49); s != want || e != api.OK {
			t.Error(n, s, e)
		}
		if v.Delete(want) != api.OK || v.Delete(want) != api.ErrState || v.Resume(want) != api.ErrState || v.Suspend(want) != api.ErrState {
			t.Error(n)
		}
	}
	if s, e := v.Provision(number, wallet, 49); s != "" || e != api.ErrFull {
		t.Error(s, e)
	}
	small, _ := New("4800000000", 12)
	for range 10 {
		small.Provision(number, wallet, 0)
	}
	if s, e := small.Provision(number, wallet, 0); s != "" || e != api.ErrFull {
		t.Error(s, e)
	}
}

func TestP15_3P15_7Resolve(t *testing.T) {
	v := vault(t)
	s, _ := v.Provision(number, wallet, 10)
	free, _ := v.Provision(number, api.Domain{Requestor: "wallet"}, 10)
	for i, c := range []struct {
		token, requestor, merchant string
		at                         int
		want                       string
		e                          api.Errno
	}{
		{s, "wallet", "m-1", 49, number, api.OK}, {s, "wallet", "m-1", 0, number, api.OK}, {s, "wallet", "m-2", 50, "", api.ErrDomain}, {s, "other", "m-1", 49, "", api.ErrDomain}, {s, "wallet", "", 49, "", api.ErrDomain}, {s, "wallet", "m-1", 50, "", api.ErrTime}, {s, "wallet", "m-1", -1, "", api.ErrTime},
		{number, "wallet", "m-1", 49, "", api.ErrNone}, {free, "wallet", "any", api.MaxTime, number, api.OK}, {free, "wallet", "", api.MaxTime + 1, "", api.ErrTime}, {free, "", "", 0, "", api.ErrDomain},
	} {
		if x, e := v.Resolve(c.token, c.requestor, c.merchant, c.at); x != c.want || e != c.e {
			t.Error(i, x, e)
		}
	}
	v.Suspend(s)
	if x, e := v.Resolve(s, "x", "m-1", -1); x != "" || e != api.ErrState {
		t.Error(x, e)
	}
}

func TestP15_4P15_5States(t *testing.T) {
	v := vault(t)
	s, _ := v.Provision(number, wallet, 10)
	other, _ := pan.Make("51", 1, 16)
	for i, e := range []api.Errno{v.Resume(s), v.Suspend(s), v.Suspend(s), v.Replace(s, other), v.Resume(s), v.Replace(s, s), v.Replace(s, "1"), v.Replace("x", "1"), v.Suspend("x"), v.Resume("x"), v.Delete("x"), v.Suspend(s), v.Delete(s), v.Replace(s, "1")} {
		if e != []api.Errno{api.ErrState, api.OK, api.ErrState, api.OK, api.OK, api.ErrRange, api.ErrShort, api.ErrNone, api.ErrNone, api.ErrNone, api.ErrNone, api.OK, api.OK, api.ErrState}[i] {
			t.Error(i, e)
		}
	}
	if x, ok := v.Get(s); !ok || x != (api.Token{Token: s, Pan: other, Domain: wallet, State: api.TokenDeleted, Created: 10}) {
		t.Error(x)
	}
}

func TestP15_6Queries(t *testing.T) {
	v := vault(t)
	a, _ := v.Provision(number, wallet, 10)
	b, _ := v.Provision(number, wallet, 11)
	c, _ := v.Provision(number, wallet, 12)
	v.Delete(b)
	v.Suspend(c)
	if l := v.Of(number); !slices.Equal(l, []string{a, c}) || v.Of("x") != nil {
		t.Error(l)
	}
	if x, ok := v.Get("x"); ok || x != (api.Token{}) {
		t.Error(x)
	}
	for _, none := range []*Vault{nil, {}} {
		_, e := none.Resolve(a, "wallet", "m-1", 1)
		_, ok := none.Get(a)
		if e != api.ErrNone || ok || none.Of(number) != nil || none.Is(a) || none.Suspend(a) != api.ErrNone || none.Resume(a) != api.ErrNone || none.Delete(a) != api.ErrNone || none.Replace(a, number) != api.ErrNone {
			t.Error("missing vault")
		}
	}
	if s, e := (*Vault)(nil).Provision(number, wallet, 1); s != "" || e != api.ErrNone {
		t.Error(s, e)
	}
	if _, e := (&Vault{}).Provision(number, wallet, 1); e == api.OK {
		t.Error(e)
	}
}
