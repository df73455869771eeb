package record

import (
	"strings"
	"testing"

	"cardnet/api"
)

const line = "1|000001000007-1|000001000007|shopbank|homebank|SHOP1|4000000000000077|1000|EUR|12|5411|1"

func sample() api.Record {
	return api.Record{Kind: api.RcPresent, Id: "000001000007-1", Auth: "000001000007", Acquirer: "shopbank", Issuer: "homebank", Merchant: "SHOP1", Card: "4000000000000077", Amount: api.Money{Amount: 1000, Currency: "EUR"}, Date: 12, Category: 5411, Final: true}
}

func TestP32_1P32_2Check(t *testing.T) {
	for i, c := range []struct {
		change func(r *api.Record)
		want   api.Errno
	}{
		{func(r *api.Record) {}, api.OK}, {func(r *api.Record) { r.Kind, r.Id = 0, "" }, api.ErrRange}, {func(r *api.Record) { r.Kind = 5 }, api.ErrRange}, {func(r *api.Record) { r.Id, r.Card = "", "" }, api.ErrName}, {func(r *api.Record) { r.Id = "a b" }, api.ErrName}, {func(r *api.Record) { r.Auth = "" }, api.OK}, {func(r *api.Record) { r.Auth = "abcdefghijklmnopq" }, api.ErrName}, {func(r *api.Record) { r.Acquirer = "a-b" }, api.ErrName}, {func(r *api.Record) { r.Issuer = "" }, api.ErrName}, {func(r *api.Record) { r.Merchant = "" }, api.ErrName}, {func(r *api.Record) { r.Merchant = "1-2" }, api.OK},
		{func(r *api.Record) { r.Card, r.Amount.Currency = "4000000000000078", "x" }, api.ErrCard}, {func(r *api.Record) { r.Card = "1" }, api.ErrCard}, {func(r *api.Record) { r.Amount.Currency, r.Amount.Amount = "eur", 0 }, api.ErrCurrency}, {func(r *api.Record) { r.Amount.Amount, r.Date = 1<<53, -1 }, api.ErrRange}, {func(r *api.Record) { r.Amount.Amount = 0 }, api.ErrRange}, {func(r *api.Record) { r.Amount.Amount = -5 }, api.ErrRange}, {func(r *api.Record) { r.Amount.Amount = api.MaxAmount + 1 }, api.ErrRange}, {func(r *api.Record) { r.Amount.Amount = api.MaxAmount }, api.OK},
		{func(r *api.Record) { r.Category, r.Date = -1, -1 }, api.ErrRange}, {func(r *api.Record) { r.Category = 10000 }, api.ErrRange}, {func(r *api.Record) { r.Category = 0 }, api.OK}, {func(r *api.Record) { r.Date = -1 }, api.ErrTime}, {func(r *api.Record) { r.Date = api.MaxDate + 1 }, api.ErrTime}, {func(r *api.Record) { r.Date = api.MaxDate }, api.OK},
	} {
		r := sample()
		c.change(&r)
		s, e := Encode(r)
		if Check(r) != c.want || e != c.want || (s == "") != (e != api.OK) {
			t.Error(i, Check(r), e)
		}
		if e != api.OK {
			if Debit(r) != 0 {
				t.Error(i, Debit(r))
			}
			continue
		}
		if back, e := Decode(s); back != r || e != api.OK {
			t.Error(i, back, e)
		}
	}
}

func TestP32_2P32_3P32_7Text(t *testing.T) {
	if s, e := Encode(sample()); s != line || e != api.OK {
		t.Error(s, e)
	}
	for _, c := range []struct {
		old, new string
		want     api.Errno
	}{
		{"|1000|", "|01000|", api.ErrFormat}, {"|1000|", "|0|", api.ErrRange}, {"EUR", "eur", api.ErrCurrency}, {"1|0", "+1|0", api.ErrFormat}, {"|12|", "|x|", api.ErrFormat}, {"|5411|", "||", api.ErrFormat}, {"5411|1", "5411|2", api.ErrFormat}, {"5411|1", "5411|", api.ErrFormat}, {"5411|1", "5411|1|", api.ErrFormat}, {"5411|1", "5411", api.ErrFormat}, {"1|0", "9|0", api.ErrRange}, {"shopbank", "shop-bank", api.ErrName}, {"0077", "0078", api.ErrCard}, {"|12|", "|-1|", api.ErrTime}, {"|1000|", "|9223372036854775808|", api.ErrFormat}, {"|5411|1", "|-0|1", api.ErrFormat},
	} {
		if r, e := Decode(strings.Replace(line, c.old, c.new, 1)); r != (api.Record{}) || e != c.want {
			t.Error(c, r, e)
		}
	}
	if r, e := Decode(""); r != (api.Record{}) || e != api.ErrFormat {
		t.Error(r, e)
	}
}

func TestP32_4P32_6Debit(t *testing.T) {
	for kind, want := range map[int]struct {
		debit int64
		name  string
	}{1: {1000, "presentment"}, 2: {-1000, "refund"}, 3: {-1000, "chargeback"}, 4: {1000, "representment"}, 0: {0, ""}, 5: {0, ""}, -1: {0, ""}} {
		r := sample()
		r.Kind = kind
		if Debit(r) != want.debit || Name(kind) != want.name {
			t.Error(kind, Debit(r), Name(kind))
		}
	}
}

func TestP32_5P32_8Less(t *testing.T) {
	of := func(date int, acquirer, id string) api.Record {
		return api.Record{Date: date, Acquirer: acquirer, Id: id}
	}
	l := []api.Record{of(-1, "z", "z"), of(0, "Z", "a"), of(0, "a", ""), of(0, "a", "A"), of(0, "a", "a"), of(0, "aa", ""), of(1, "", "")}
	for i, a := range l {
		for j, b := range l {
			if Less(a, b) != (i < j) {
				t.Error(i, j)
			}
		}
	}
	a, b := sample(), sample()
	b.Kind, b.Amount.Amount = 2, 5
	if Less(a, b) || Less(b, a) {
		t.Error("records with the same date, acquirer and identification")
	}
}
