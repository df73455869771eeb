package matching

import (
	"testing"

	"cardnet/api"
	"cardnet/auth"
)

func TestP35_1P35_2P35_5Limits(t *testing.T) {
	if n, e := Allowed(5, Tolerance{}); n != 0 || e != api.OK {
		t.Error(n, e)
	}
	one, _ := auth.New("a", "EUR", 1, 0, 9)
	if o, e := Apply(one, rec("a", 1, false), Tolerance{}); o.Used != 1 || e != api.OK {
		t.Error(o, e)
	}
	if ids := Unmatched([]api.Auth{one}); len(ids) != 1 {
		t.Error(ids)
	}
}
