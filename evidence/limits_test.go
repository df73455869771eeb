package evidence

import (
	"testing"

	"cardnet/api"
)

func TestP45_1Limits(t *testing.T) {
	for kind, want := range map[string]api.Errno{"azAZ09": api.OK, "z": api.OK, "Z": api.OK, "a/": api.ErrName, "a:": api.ErrName, "@": api.ErrName, "[": api.ErrName, "`": api.ErrName, "{": api.ErrName, "9": api.ErrName} {
		if e := Check(api.Item{Kind: kind, Size: 1}); e != want {
			t.Error(kind, e)
		}
	}
}
