package audit

import (
	"testing"

	"cardnet/api"
	"cardnet/paynet"
)

func TestP52_2P52_6Limits(t *testing.T) {
	if f := Credits([]api.Event{posted("a", 0), credited("a", 1)}); len(f) != 1 {
		t.Error(f)
	}
	if f := Credits([]api.Event{posted("a", 0), credited("a", -1)}); f != nil {
		t.Error(f)
	}
	if f := Credits([]api.Event{posted("a", -1), credited("a", -1), posted("b", -1), credited("b", 0)}); f != nil {
		t.Error(f)
	}
	n, _ := paynet.New(setup())
	if Play(n, Step{Kind: 5}) != api.OK || n.Now() != 0 {
		t.Error("an advance by nothing")
	}
	for i, l := range [][]string{words(""), words(" "), words("a  b")} {
		if len(l) != []int{0, 2, 3}[i] {
			t.Error(i, l)
		}
	}
	if l := items([]string{"letter"}); l[0] != (api.Item{Kind: "letter", Size: 1, Hash: 1}) {
		t.Error(l)
	}
}
