package velocity

import (
	"testing"

	"cardnet/api"
)

func TestP23_1P23_2P23_3P23_4P23_5Limits(t *testing.T) {
	for _, horizon := range []int{1, 10000000} {
		w := of(t, horizon)
		if w.Add("k", 0, 0) != api.OK || w.Count("k", 0, 1) != 1 || w.Count("k", 1, 1) != 0 || w.Count("k", horizon-1, horizon) != 1 || w.Forget(0) != 0 {
			t.Error(horizon)
		}
		if at, ok := w.Last("k"); at != 0 || !ok {
			t.Error(at, ok)
		}
		if w.Remove("k", 0, 0) != api.OK || w.Len() != 0 {
			t.Error(horizon)
		}
		if w.Add("k", api.MaxTime, api.MaxAmount) != api.OK || w.Count("k", api.MaxTime, 1) != 1 || w.Forget(api.MaxTime) != 0 {
			t.Error(horizon)
		}
	}
	w := of(t, 10)
	w.Add("j", 1, 1)
	w.Add("k", 2, 1)
	if at, ok := w.Last("k"); at != 2 || !ok || w.Remove("k", 2, 1) != api.OK {
		t.Error(at, ok)
	}
}
