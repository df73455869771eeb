package binrange

import (
	"strings"
	"testing"

	"cardnet/api"
)

func TestP21_1P21_2P21_7Limits(t *testing.T) {
	if Check([]api.Range{of("41", "42"), of("40", "41")}) != api.ErrExists || Check([]api.Range{of("41", "42"), of("39", "40"), of("43", "43")}) != api.OK {
		t.Error("ranges that touch")
	}
	if !Overlap(of("1234567890", "1234567890"), of("1", "1")) || Overlap(of("1234567890", "1234567890"), of("2", "2")) || !Overlap(of("19", "20"), of("2000000000", "2000000000")) {
		t.Error("Overlap")
	}
	s := "4-5 a b;"
	if l, e, _ := Parse(s + strings.Repeat(" ", api.MaxText-len(s))); len(l) != 1 || e != api.OK {
		t.Error(e)
	}
}
