package journal

import (
	"strings"
	"testing"

	"cardnet/api"
)

func TestP49_3P49_4Limits(t *testing.T) {
	j := open(t, newDisk(t, 100))
	if e := j.Append(strings.Repeat("x", api.MaxEntry)); e != api.OK {
		t.Error(e)
	}
	if j.Commit() != api.OK || j.Room() != 11 {
		t.Error(j.Room())
	}
	commit(t, j, strings.Repeat("y", 11*45-4))
	if j.Room() != 0 || !same(j, open(t, j.disk)) {
		t.Error(j.Room())
	}
}
