package netting

import (
	"slices"
	"strconv"
	"testing"

	"cardnet/api"
)

func pos(party string, n int64, currency string) api.Position {
	return api.Position{Party: party, Net: api.Money{Amount: n, Currency: currency}}
}

func tr(from, to string, n int64, currency string) api.Transfer {
	return api.Transfer{From: from, To: to, Amount: api.Money{Amount: n, Currency: currency}}
}

func TestP41_1Check(t *testing.T) {
	var many []api.Position
	for i := range 513 {
		many = append(many, pos("p"+strconv.Itoa(i), 0, "EUR"))
	}
	for i, c := range []struct {
		l            []api.Position
		check, apply api.Errno
	}{
		{nil, api.OK, api.OK}, {many, api.ErrLong, api.ErrLong}, {many[:512], api.OK, api.OK}, {[]api.Position{pos("a-b", 1<<53, "")}, api.ErrName, api.ErrName}, {[]api.Position{pos("a", 1<<53, "EUR"), pos("", 0, "")}, api.ErrRange, api.ErrRange}, {[]api.Position{pos("a", 1, "")}, api.ErrCurrency, api.ErrCurrency}, {[]api.Position{pos("a", 1, "EUR"), pos("a", -1, "EUR")}, api.ErrExists, api.ErrExists}, {[]api.Position{pos("a", 0, "EUR"), pos("a", 0, "USD")}, api.OK, api.OK},
		{[]api.Position{pos("a", -1, "EUR"), pos("b", 1, "USD")}, api.ErrBalance, api.OK},
	} {
		s, f := Settle(c.l)
		_, g := Apply(c.l, nil)
		if e := Check(c.l); e != c.check || f != c.check || g != c.apply || s != nil {
			t.Error(i, e, f, g)
		}
	}
}

func TestP41_2P41_6P41_7Settle(t *testing.T) {
	for i, c := range []struct {
		l    []api.Position
		want []api.Transfer
	}{
		{[]api.Position{pos("a", -100, "EUR"), pos("b", 70, "EUR"), pos("c", 30, "EUR")}, []api.Transfer{tr("a", "b", 70, "EUR"), tr("a", "c", 30, "EUR")}},
		{[]api.Position{pos("d", 40, "EUR"), pos("c", 60, "EUR"), pos("b", -50, "EUR"), pos("a", -50, "EUR")}, []api.Transfer{tr("a", "c", 50, "EUR"), tr("b", "d", 40, "EUR"), tr("b", "c", 10, "EUR")}},
		{[]api.Position{pos("b", 5, "USD"), pos("a", 0, "USD"), pos("c", -5, "USD"), pos("x", -3, "EUR"), pos("y", 3, "EUR"), pos("a", 0, "AUD")}, []api.Transfer{tr("x", "y", 3, "EUR"), tr("c", "b", 5, "USD")}},
	} {
		for range 4 {
			got, e := Settle(c.l)
			if !slices.Equal(got, c.want) || e != api.OK || !Valid(c.l, got) {
				t.Error(i, got, e)
			}
			c.l = append(c.l[1:], c.l[0])
		}
	}
	seed := uint64(1)
	for range 50 {
		var l []api.Position
		sum := int64(0)
		for i := range 11 {
			seed = seed*6364136223846793005 + 1442695040888963407
			n := int64(seed>>40) - 1<<23
			l = append(l, pos("p"+strconv.Itoa(i), n, "EUR"))
			sum += n
		}
		l = append(l, pos("last", -sum, "EUR"))
		got, e := Settle(l)
		pays, gets, owed := map[string]bool{}, map[string]bool{}, int64(0)
		for _, x := range got {
			pays[x.From], gets[x.To] = true, true
		}
		for _, p := range l {
			owed += max(0, p.Net.Amount)
			if pays[p.Party] && gets[p.Party] {
				t.Error(p)
			}
		}
		if !Valid(l, got) || len(got) >= 12 || Volume(got, "EUR") != owed || e != api.OK {
			t.Error(got, e)
		}
	}
}

func TestP41_3P41_8Apply(t *testing.T) {
	most := []api.Position{pos("a", api.MaxTotal, "EUR")}
	for i, c := range []struct {
		l    []api.Position
		t    []api.Transfer
		want []api.Position
		e    api.Errno
	}{
		{nil, []api.Transfer{tr("a", "b", 5, "EUR")}, []api.Position{pos("a", 5, "EUR"), pos("b", -5, "EUR")}, api.OK}, {[]api.Position{pos("b", 5, "EUR"), pos("a", -5, "EUR"), pos("z", 1, "AUD")}, []api.Transfer{tr("a", "b", 5, "EUR")}, []api.Position{pos("z", 1, "AUD")}, api.OK}, {nil, []api.Transfer{tr("a", "b", -5, "EUR"), tr("c", "c", 7, "EUR")}, []api.Position{pos("a", -5, "EUR"), pos("b", 5, "EUR")}, api.OK},
		{nil, []api.Transfer{tr("a-b", "b", 5, "")}, nil, api.ErrName}, {nil, []api.Transfer{tr("a", "", 5, "")}, nil, api.ErrName}, {nil, []api.Transfer{tr("a", "b", 5, "")}, nil, api.ErrCurrency}, {nil, []api.Transfer{tr("a", "b", 1<<53, "EUR")}, nil, api.ErrRange}, {most, []api.Transfer{tr("a", "b", 1, "EUR")}, nil, api.ErrRange}, {most, []api.Transfer{tr("a", "a", 1, "EUR")}, nil, api.ErrRange}, {most, []api.Transfer{tr("b", "a", 1, "EUR"), tr("a", "b", 1, "EUR")}, most, api.OK}, {[]api.Position{pos("a", -api.MaxTotal, "EUR")}, []api.Transfer{tr("b", "a", 1, "EUR")}, nil, api.ErrRange},
	} {
		if got, e := Apply(c.l, c.t); !slices.Equal(got, c.want) || e != c.e {
			t.Error(i, got, e)
		}
	}
}

func TestP41_4P41_5Valid(t *testing.T) {
	l := []api.Position{pos("a", -5, "EUR"), pos("b", 5, "EUR")}
	for i, c := range []struct {
		l    []api.Position
		t    []api.Transfer
		want bool
	}{
		{l, []api.Transfer{tr("a", "b", 5, "EUR")}, true}, {l, []api.Transfer{tr("a", "b", 3, "EUR"), tr("a", "b", 2, "EUR")}, true}, {l, nil, false}, {nil, nil, true}, {l[:1], []api.Transfer{tr("a", "b", 5, "EUR")}, false}, {l, []api.Transfer{tr("a", "b", 5, "EUR"), tr("c", "c", 1, "EUR")}, false}, {l, []api.Transfer{tr("b", "a", -5, "EUR")}, false}, {l, []api.Transfer{tr("a", "b", 5, "EUR"), tr("a", "b", 0, "EUR")}, false}, {l, []api.Transfer{tr("a", "b", 5, "USD")}, false}, {l, []api.Transfer{tr("a", "b", 5, "EUR"), tr("a", "1", 5, "EUR")}, false},
	} {
		if Valid(c.l, c.t) != c.want {
			t.Error(i)
		}
	}
	transfers := []api.Transfer{tr("a", "b", 5, "EUR"), tr("", "", 7, "EUR"), tr("a", "b", -9, "EUR"), tr("a", "b", 1, "USD"), tr("a", "b", 1<<53, "EUR"), tr("a", "b", 4, "eur")}
	if Volume(transfers, "EUR") != 12 || Volume(transfers, "eur") != 0 || Volume(nil, "EUR") != 0 || Volume([]api.Transfer{tr("a", "b", api.MaxTotal, "EUR"), tr("a", "b", 1, "EUR")}, "EUR") != api.MaxTotal {
		t.Error(Volume(transfers, "EUR"))
	}
}
