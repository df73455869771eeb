package dispute

import (
	"strconv"
	"testing"

	"cardnet/api"
)

func TestP46_3Limits(t *testing.T) {
	d := desk(t)
	r := rec("zero")
	r.Date = 0
	if d.Open("a", r, "other", 1000, 0, nil) != api.OK {
		t.Error("the whole amount on the first date")
	}
	for n := 1; n < api.MaxCases; n++ {
		if e := d.Open("n"+strconv.Itoa(n), rec("r"+strconv.Itoa(n)), "other", 1, 100, nil); e != api.OK {
			t.Error(n, e)
		}
	}
	if e := d.Open("more", rec("more"), "other", 1, 100, nil); e != api.ErrFull {
		t.Error(e)
	}
	if len(d.Expire(api.MaxDate)) != api.MaxCases {
		t.Error("Expire")
	}
}
