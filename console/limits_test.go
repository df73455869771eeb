package console

import (
	"strings"
	"testing"
)

func TestP53_1Standard(t *testing.T) {
	runs(t, "network 4 4 999999999999; buy 3 3 1 100000 m1; wait 3; sale 0; wait 1; sale 0; capture 0 100000; clear; shop m1; balance bank:bank3; balance network; balance acq:acq3; settle 0",
		"ok; 0 000003000001; ok 3; waiting 0 0 0; ok 4; approved 100000 0 0; ok; ok 0; 98795; 200; 50; 955; bank3 acq3 997.50 EUR; bank3 network 0.50 EUR; ok 2")
	runs(t, "network 1 1 9000000; buy 0 0 0 1000001 m; wait 5; sale 0; buy 0 0 0 1000000 m; wait 5; sale 1", "ok; 0 000000000001; ok 5; declined 0 0 0; 1 000000000002; ok 10; approved 1000000 0 0")
	runs(t, "network 1 1 9000; buy 0 0 0 1000 m; buy 0 0 0 1000 m; wait 5; capture 0 1150; capture 1 1151; clear; holder 0 0", "ok; 0 000000000001; 1 000000000002; ok 5; ok; ok; reject 000000000002-1 22; ok 1; 7850 1000")
	runs(t, "network 1 1 9000; buy 0 0 0 1000 m; wait 5; capture 0 400; clear; holder 0 0; buy 0 0 0 10 m; wait 604801; holder 0 0; wait 1; holder 0 0", "ok; 0 000000000001; ok 5; ok; ok 0; 8600 0; 1 000000000002; ok 604806; 8600 10; ok 604807; 8600 0")
	runs(t, "network 1 1 9000; wait 64799; buy 0 0 0 1000 m; buy 0 0 0 1000 m; wait 4; capture 0 10; clear; settle 0; settle 1", "ok; ok 64799; 0 000000000001; 1 000000000002; ok 64803; ok; ok 0; ok 0; bank0 acq0 0.10 EUR; ok 1")
	runs(t, "network 1 1 9000; wait 64795; buy 0 0 0 1000 m; wait 5; capture 0 10; clear; settle 0; settle 1", "ok; ok 64795; 0 000000000001; ok 64800; ok; ok 0; ok 0; bank0 acq0 0.10 EUR; ok 1")
	for k, want := range []string{"401000", "402000", "403000"} {
		c := New()
		c.Do("network 4 1 100")
		if s, _ := c.net.Card(k+1, 0); !strings.HasPrefix(s, want) || len(s) != 16 {
			t.Error(k, s)
		}
	}
	runs(t, "network 4 1 -1; network 4 0 5; network 4 5 5; network 1 1 0; total", "error 4; error 4; error 4; ok; 0")
	for line, want := range map[string]string{"business 2026-11-16 -1099511627776": "error 4\n", "business 2026-11-16 -1099511627777": "error 30\n", "business 2026-11-16 1099511627776": "error 4\n"} {
		if got := New().Do(line); got != want {
			t.Error(line, got)
		}
	}
}
