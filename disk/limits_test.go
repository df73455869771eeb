package disk

import (
	"strings"
	"testing"

	"cardnet/api"
)

func TestP48_1P48_2P48_4Limits(t *testing.T) {
	d := of(t, 1)
	errs(t, []api.Errno{d.Write(0, strings.Repeat("x", 64)), d.Write(0, strings.Repeat("x", 65)), d.Write(0, "y"), d.Arm(1000000, 0)}, api.OK, api.ErrLong, api.OK, api.OK)
	read(t, d, 0, "y", api.OK)
	d = of(t, 1)
	d.Write(0, "first")
	read(t, d, 0, "first", api.OK)
}
