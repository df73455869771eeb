package ledger

import (
	"testing"

	"cardnet/api"
	"cardnet/checksum"
)

func TestP43_2P43_6Limits(t *testing.T) {
	l := of(t, "a", "b")
	for i, e := range []api.Errno{l.Post(entry("e0", 0, "a", 0)), l.Post(entry("e1", api.MaxDate, "a", 0)), l.Post(entry("e2", 5, "a", 1, "a", 1, "a", 1, "a", 1, "a", 1, "a", 1, "a", 1, "a", 1, "b", -1, "b", -1, "b", -1, "b", -1, "b", -1, "b", -1, "b", -1, "b", -1))} {
		if e != api.OK {
			t.Error(i, e)
		}
	}
	m := of(t, "a", "b")
	m.Post(entry("e", 12, "a", 1234567890, "b", -1234567890))
	if m.Digest() != checksum.Chain(0, "e|12|a/1234567890/EUR|b/-1234567890/EUR") {
		t.Error(m.Digest())
	}
}
