package standin

import (
	"testing"

	"cardnet/api"
)

func TestP28_2P28_8Limits(t *testing.T) {
	s, e := New([]Limit{{"homebank", api.MaxAmount, api.MaxAmount, 2}, {"second", 10, 10, 0}})
	if e != api.OK {
		t.Fatal(e)
	}
	decide(t, s, 0, "a", "homebank", number, 1, true, api.OK)
	decide(t, s, 0, "b", "homebank", number, 1, true, api.OK)
	decide(t, s, 0, "c", "homebank", number, 1, false, api.OK)
	decide(t, s, 0, "d", "homebank", other, api.MaxAmount, true, api.OK)
	decide(t, s, 0, "e", "second", other, 1, false, api.OK)
	s.Reverse("a")
	decide(t, s, 0, "f", "homebank", number, 1, true, api.OK)
	decide(t, s, 0, "g", "homebank", number, 1, false, api.OK)
}
