package reason

import (
	"testing"

	"cardnet/api"
)

func TestP44_1P44_4P44_7Limits(t *testing.T) {
	r := api.Reason{Code: "a", FileDays: 1, RepresentDays: 1000, PrearbDays: 1, AnswerDays: 1000}
	if e := Check([]api.Reason{r}); e != api.OK {
		t.Error(e)
	}
	if d, e := Due(r, 0, 0); d != 1 || e != api.OK {
		t.Error(d, e)
	}
	if d, e := Due(r, 1, api.MaxDate-1000); d != api.MaxDate || e != api.OK {
		t.Error(d, e)
	}
	if l, e, _ := Parse("reason a 1 1000 1 1000 claim defence;"); len(l) != 1 || e != api.OK {
		t.Error(e)
	}
}
