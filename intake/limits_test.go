package intake

import (
	"testing"

	"cardnet/api"
)

func TestP34_2Limits(t *testing.T) {
	x := of(t, "shop")
	accept(t, x, api.MaxDate, file(t, "shop", "a", api.MaxDate, rec("shop", "r", 1)), "r", api.OK)
	accept(t, x, 0, file(t, "shop", "b", 0), "", api.OK)
}
