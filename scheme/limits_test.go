package scheme

import (
	"testing"

	"cardnet/api"
)

func TestP39_2P39_3Limits(t *testing.T) {
	// 10^9 records at 450359962 hundredths each, of which the last two are dearer, give exactly the greatest total.
	l := []Tier{{1, 450359962}, {999999999, 450359962 + 368524800}}
	if n, e := Fee(l, 1000000000); n != api.MaxTotal || e != api.OK {
		t.Error(n, e)
	}
	l[1].Price += 50
	if n, e := Fee(l, 1000000000); n != 0 || e != api.ErrRange {
		t.Error(n, e)
	}
	if s, e := Share(tiers, []Volume{{"a", 1000000000}}); len(s) != 1 || e != api.OK {
		t.Error(s, e)
	}
}
