package netting

import (
	"slices"
	"testing"

	"cardnet/api"
)

func TestP41_2P41_3P41_4P41_5Limits(t *testing.T) {
	l := []api.Position{pos("d", 50, "EUR"), pos("c", 50, "EUR"), pos("a", -100, "EUR")}
	if got, e := Settle(l); !slices.Equal(got, []api.Transfer{tr("a", "c", 50, "EUR"), tr("a", "d", 50, "EUR")}) || e != api.OK {
		t.Error(got, e)
	}
	if got, e := Apply(nil, []api.Transfer{tr("a", "b", api.MaxTotal, "EUR")}); len(got) != 2 || e != api.OK {
		t.Error(got, e)
	}
	if !Valid([]api.Position{pos("a", -1, "EUR"), pos("b", 1, "EUR")}, []api.Transfer{tr("a", "b", 1, "EUR")}) || Volume([]api.Transfer{tr("a", "b", 1, "EUR"), tr("a", "b", 0, "EUR")}, "EUR") != 1 {
		t.Error("the least amount")
	}
}
