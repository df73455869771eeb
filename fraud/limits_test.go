package fraud

import (
	"strconv"
	"testing"

	"cardnet/api"
)

func TestP26_1P26_2P26_3Limits(t *testing.T) {
	s := ""
	for i := range 63 {
		s += "rule r" + strconv.Itoa(i) + " when 1 = 2: pass;"
	}
	x := engine(t, s+"rule a when 1 = 1: pass score 1000;", 1000, 1000000)
	judge(t, x, api.MaxTime, nil, "refer 1000 a")
	judge(t, engine(t, "rule a when 1 = 1: pass score 50;", 50, 51), 0, nil, "refer 50 a")
	judge(t, engine(t, "rule a when 1 = 1: pass score 51;", 50, 51), 0, nil, "decline 51 a")
	judge(t, engine(t, "rule a when 1 = 1: pass score 49;", 50, 51), 0, nil, "pass 49 a")
	r := rules(t, "rule a when 1 = 1: pass;")
	r[0].Score = -1
	if _, e := New(r, 1, 1); e != api.ErrRange {
		t.Error(e)
	}
	if x.Record(api.MaxTime, nil, api.MaxAmount) != api.OK {
		t.Error("the greatest time and amount")
	}
	y := engine(t, "rule a when 1 <= count(card, 1): pass score 1;", 1, 1)
	card := sale("c", "m", 1)[:1]
	y.Record(5, card, 1)
	judge(t, y, 5, card, "decline 1 a")
	judge(t, y, 6, card, "pass 0")
	for range 999 {
		y.Record(5, card, 1)
	}
	if y.Record(5, card, 1) != api.ErrFull || y.Record(6, card, 1) != api.OK || y.Undo(5, card, 1) != api.ErrNone || y.Undo(6, card, 1) != api.OK {
		t.Error("uses that are too old")
	}
	for element, want := range map[int]int64{52: 1, 53: 0, 51: 0} {
		l := Features(api.Message{Elements: []api.Element{{Number: element}}})
		if l[len(l)-1].N != want {
			t.Error(element, l)
		}
	}
}
