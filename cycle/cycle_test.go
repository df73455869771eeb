package cycle

import (
	"slices"
	"strconv"
	"strings"
	"testing"

	"cardnet/api"
	"cardnet/calendar"
)

const day = 86400

func of(t *testing.T, cutoff int, holidays ...int) *Cycles {
	t.Helper()
	c, e := calendar.New(holidays)
	if e != api.OK {
		t.Fatal(e)
	}
	x, e := New(c, cutoff, []string{"a", "b", "c"})
	if e != api.OK {
		t.Fatal(e)
	}
	return x
}

func eur(n int64) api.Money { return api.Money{Amount: n, Currency: "EUR"} }

func show(l []api.Position) string {
	s := ""
	for _, p := range l {
		s += p.Party + strconv.FormatInt(p.Net.Amount, 10) + p.Net.Currency + " "
	}
	return strings.TrimSpace(s)
}

func TestP42_1New(t *testing.T) {
	c, _ := calendar.New(nil)
	for i, x := range []struct {
		c       *calendar.Calendar
		cutoff  int
		parties []string
		want    api.Errno
	}{{nil, -1, []string{""}, api.ErrNone}, {c, -1, []string{""}, api.ErrRange}, {c, 86401, nil, api.ErrRange}, {c, 0, []string{""}, api.ErrName}, {c, 0, []string{"a", "a"}, api.ErrExists}, {c, 86400, nil, api.OK}} {
		if y, e := New(x.c, x.cutoff, x.parties); e != x.want || (y == nil) != (e != api.OK) {
			t.Error(i, e)
		}
	}
}

func TestP42_2Of(t *testing.T) {
	for i, c := range []struct {
		x    *Cycles
		at   int
		want int
		e    api.Errno
	}{
		{of(t, 3600), 3599, 0, api.OK}, {of(t, 3600), 3600, 1, api.OK}, {of(t, 3600), day + 3600, 4, api.OK}, {of(t, 3600), 2 * day, 4, api.OK}, {of(t, 3600), 3*day + 9999, 4, api.OK}, {of(t, 0), 0, 1, api.OK}, {of(t, 86400), day - 1, 0, api.OK}, {of(t, 3600, 0, 1), 5, 4, api.OK}, {of(t, 3600), -1, 0, api.ErrTime}, {of(t, 3600), 100000 * day, 0, api.ErrTime},
		{of(t, 3600), api.MaxDate * day, api.MaxDate, api.OK}, {of(t, 3600), api.MaxDate*day + 3600, 0, api.ErrTime}, {of(t, 3600, api.MaxDate), api.MaxDate * day, 0, api.ErrTime}, {nil, 0, 0, api.ErrNone},
	} {
		if d, e := c.x.Of(c.at); d != c.want || e != c.e {
			t.Error(i, d, e)
		}
	}
}

func TestP42_3P42_4P42_7Move(t *testing.T) {
	x := of(t, 3600)
	move := func(at int, from, to string, m api.Money, want int, we api.Errno) {
		t.Helper()
		if d, e := x.Move(at, from, to, m); d != want || e != we {
			t.Error(at, d, e)
		}
	}
	move(-1, "x", "y", eur(1), 0, api.ErrTime)
	move(0, "x", "y", eur(1), 0, api.ErrNone)
	move(0, "a", "a", eur(1), 0, api.ErrRange)
	if x.Open() != nil {
		t.Error("a failed move is no movement")
	}
	move(0, "a", "b", eur(100), 0, api.OK)
	move(3600, "b", "a", eur(30), 1, api.OK)
	closing := func(date int, want string, we api.Errno) {
		t.Helper()
		if l, e := x.Close(date); show(l) != want || e != we {
			t.Error(date, l, e)
		}
	}
	closing(2, "", api.ErrTime)
	closing(-1, "", api.ErrTime)
	closing(1, "", api.ErrState)
	closing(4, "", api.ErrState)
	closing(0, "a-100EUR b100EUR", api.OK)
	closing(0, "", api.ErrClosed)
	closing(1, "a30EUR b-30EUR", api.OK)
	closing(6, "", api.OK)
	move(3600, "a", "b", eur(5), 4, api.OK)
	move(5*day, "a", "b", eur(7), 5, api.OK)
	move(5*day+3600, "a", "c", eur(9), 7, api.OK)
	move(0, "a", "b", eur(1), 4, api.OK)
	if show(x.Positions(0)) != "a-100EUR b100EUR" || show(x.Positions(4)) != "a-6EUR b6EUR" || show(x.Positions(6)) != "" {
		t.Error(show(x.Positions(4)))
	}
	closing(6, "", api.ErrClosed)
	last := of(t, 86400)
	last.Close(api.MaxDate)
	if d, e := last.Move(api.MaxDate*day, "a", "b", eur(1)); d != 0 || e != api.ErrTime {
		t.Error(d, e)
	}
	zero := of(t, 86400)
	zero.Move(0, "a", "b", eur(0))
	if !slices.Equal(zero.Open(), []int{0}) {
		t.Error("a move of nothing is a movement")
	}
}

func TestP42_5Settle(t *testing.T) {
	x := of(t, 86400)
	x.Move(0, "a", "b", eur(100))
	x.Move(0, "b", "c", eur(30))
	rates := []api.Rate{{From: "EUR", To: "USD", Num: 11, Den: 10}}
	settle := func(date int, to string, want string, we api.Errno) {
		t.Helper()
		l, e := x.Settle(date, rates, to, "EUR")
		s := ""
		for _, y := range l {
			s += y.From + y.To + strconv.FormatInt(y.Amount.Amount, 10) + y.Amount.Currency + " "
		}
		if s != want || e != we {
			t.Error(date, s, e)
		}
	}
	settle(0, "x", "", api.ErrState)
	x.Close(0)
	settle(0, "x", "", api.ErrCurrency)
	settle(0, "GBP", "", api.ErrNone)
	settle(0, "USD", "ab77USD ac33USD ", api.OK)
	settle(0, "EUR", "ab70EUR ac30EUR ", api.OK)
	x.Close(1)
	settle(1, "EUR", "", api.OK)
	settle(1, "x", "", api.ErrCurrency)
	if show(x.Positions(0)) != "a-100EUR b70EUR c30EUR" {
		t.Error("Settle changes positions")
	}
}

func TestP42_6P42_8Queries(t *testing.T) {
	x := of(t, 3600)
	sum := int64(0)
	for at := 0; at < 12*day; at += day / 5 {
		x.Move(at, "a", "b", eur(int64(at+1)))
		sum += int64(at + 1)
		if at%(2*day) == 0 && len(x.Open()) > 1 {
			x.Close(x.Open()[0])
		}
	}
	for date := range 20 {
		for _, p := range x.Positions(date) {
			if p.Party == "b" {
				sum -= p.Net.Amount
			}
		}
	}
	if sum != 0 || !x.Closed(0) || x.Closed(11) || x.Closed(-1) || !slices.IsSorted(x.Open()) || len(x.Open()) == 0 {
		t.Error(sum, x.Open())
	}
	for _, none := range []*Cycles{nil, {}} {
		_, e := none.Of(0)
		_, f := none.Move(0, "a", "b", eur(1))
		_, g := none.Close(0)
		_, h := none.Settle(0, nil, "EUR", "")
		if e != api.ErrNone || f != api.ErrNone || g != api.ErrNone || h != api.ErrNone || none.Closed(0) || none.Positions(0) != nil || none.Open() != nil {
			t.Error("missing cycles")
		}
	}
}
