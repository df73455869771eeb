package batch

import (
	"slices"
	"testing"

	"cardnet/api"
)

func TestP33_1P33_2P33_4Limits(t *testing.T) {
	if x := Sum([]api.Record{rec("a", 1, 1), rec("b", 2, 0), rec("c", 3, 1)}); x.Debit != 1 || x.Credit != 1 {
		t.Error(x)
	}
	for date, want := range map[int]api.Errno{0: api.OK, api.MaxDate: api.OK} {
		if e := Check(api.Batch{Id: "a", Sender: "b", Date: date}); e != want {
			t.Error(date, e)
		}
	}
	lines := append([]string{"H|a|b|0"}, slices.Repeat([]string{"R|"}, 200)...)
	if _, rejects, e := Decode(sealed(append(lines, "T|200|0|0|0")...)); len(rejects) != 200 || e != api.OK {
		t.Error(e)
	}
	for i, trailer := range []string{"T|x|0|0|0", "T|0|x|0|0", "T|0|0|x|0", "T|0|0|0|00"} {
		if _, _, e := Decode(sealed("H|a|b|0", trailer)); e != api.ErrFormat {
			t.Error(i, e)
		}
	}
}
