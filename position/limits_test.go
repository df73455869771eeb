package position

import (
	"testing"

	"cardnet/api"
)

func TestP40_2P40_4Limits(t *testing.T) {
	b := of(t, "a", "b")
	if b.Move("a", "b", m(api.MaxTotal, "EUR")) != api.OK || b.Net("a", "EUR") != -api.MaxTotal || b.Net("b", "EUR") != api.MaxTotal {
		t.Error("the greatest position")
	}
	converts(t, b, nil, "EUR", "", "a -4503599627370496 EUR, b 4503599627370496 EUR", api.OK)
}
