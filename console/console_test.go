package console

import (
	"strconv"
	"strings"
	"testing"
)

func runs(t *testing.T, script, want string) {
	t.Helper()
	got := strings.TrimSuffix(strings.ReplaceAll(Run(strings.ReplaceAll(script, "; ", "\n")), "\n", "; "), "; ")
	if got != want {
		t.Errorf("%q gives %q, want %q", script, got, want)
	}
}

func TestP53_1Calculations(t *testing.T) {
	for line, want := range map[string]string{
		"pan 400000 0 16": "4000000000000002", "pan 4a 0 16": "error 4", "pan 4 -1 16": "error 4", "check 4000000000000002": "ok", "check 4000000000000003": "error 9", "check x": "error 1", "convert 10.00 EUR EUR/USD 11/10": "11.00 USD", "convert 10.0 EUR EUR/USD 11/10": "error 2", "convert 10.00 EUR EUR-USD 11/10": "error 2", "convert 0.05 EUR EUR/USD 1/2": "0.02 USD", "convert 10.00 USD EUR/USD 11/10": "error 11", "convert x y z 0/0": "error 2",
		"split 1.00 EUR 1 1 1": "0.34 EUR; 0.33 EUR; 0.33 EUR", "split 1.00 EUR 0": "error 4", "split 1 EUR -1": "error 2", "split 1.00 EUR -1": "error 4", "business 2026-11-16 5": "2026-11-23", "business 2026-11-16 -1": "error 4", "business 2026-1-16 5": "error 1", "business 2026-02-29 5": "error 4", "business 2026-11-15 0": "2026-11-16",
		"ranges 400000-400099 bankone gold; 400100-400199 bankone gold;": "400000-400199 bankone gold;", "ranges x": "error 2 0", "ranges # x": "", "ranges 5-4 a b;": "error 4 0", "ranges 4-5 a b; 5-5 c d;": "error 7 9", "rules rule a": "error 2 6", "rules rule a when 1=1:pass; rule b when (x):refer score 3;": "rule a when 1 = 1: pass;; rule b when x: refer score 3;", "rules #": "", "rules rule a when 01": "error 2 12", "fees fee a when 1=1:1.5%+3;": "fee a when 1 = 1: 1.5% + 3;", "fees x": "error 2 0",
		"network 1 1 10000": "ok", "network 0 1 10000": "error 4", "network 5 1 10000": "error 4", "network 1 0 10000": "error 4", "network 1 5 10000": "error 4", "network 4 4 -1": "error 4", "network 4 4 1000000000000": "error 4", "network 4 4 999999999999": "ok",
	} {
		got := strings.TrimSuffix(strings.ReplaceAll(New().Do(line), "\n", "; "), "; ")
		if got != want {
			t.Errorf("%q gives %q, want %q", line, got, want)
		}
	}
}

func TestP53_1Forms(t *testing.T) {
	for _, line := range []string{"", "fly", "pan", "pan 400000 0", "pan 400000 0 16 1", "pan 400000 x 16", "pan 400000 01 16", "pan 4 0 1099511627777", "pan 4 -1099511627777 16", "check", "check 1 2", "check  1", " check 1", "check 1 ", "check\t1", "check 1\n", "split 1.00 EUR", "split 1.00 EUR 1 x", "ranges", "rules", "fees ", "network 1 1", "network 1 1 x", "buy 0 0 0 1000", "buy 0 0 0 x m1", "buy 0 0 0 1 m 1", "total 1", "sale", "sale x", "clear 1", "Total", "holder 0", "quiet\x00", "shop", "wait 1 2"} {
		if got := New().Do(line); got != "error 30\n" {
			t.Errorf("%q gives %q", line, got)
		}
	}
	for _, line := range []string{"buy 0 0 0 1000 m1", "cancel 0", "capture 0 1", "refund 0 1", "wait 1", "clear", "settle 0", "sale 0", "holder 0 0", "shop m", "balance m", "total", "quiet", "audit"} {
		if got := New().Do(line); got != "error 6\n" {
			t.Errorf("%q gives %q", line, got)
		}
	}
	long := "check " + strings.Repeat("1", 3994)
	if New().Do(long) != "error 3\n" || New().Do(long+"1") != "error 3\n" || New().Do(strings.Repeat("\x00", 4001)) != "error 3\n" || New().Do(strings.Repeat("\x00", 4000)) != "error 30\n" {
		t.Error("long lines")
	}
	if New().Do("pan 4 1099511627776 19") != "4000010995116277760\n" {
		t.Error(New().Do("pan 4 1099511627776 19"))
	}
	if (*Console)(nil).Do("total") != "" || (&Console{}).Do("total") != "error 6\n" {
		t.Error("missing console")
	}
}

func TestP53_1Network(t *testing.T) {
	runs(t, "network 1 1 10000; buy 0 0 0 1000 m1; wait 10; sale 0; holder 0 0; capture 0 1000; clear; holder 0 0; shop m1; total; settle 0; refund 0 400; clear; holder 0 0; shop m1; audit",
		"ok; 0 000000000001; ok 10; approved 1000 0 0; 10000 1000; ok; ok 0; 9000 0; 983; 20000; bank0 acq0 9.97 EUR; bank0 network 0.01 EUR; ok 2; ok; ok 0; 9400 0; 593; clean")
	runs(t, "network 1 1 100; buy 0 0 0 500 m1; wait 10; sale 0", "ok; 0 000000000001; ok 10; declined 0 0 0")
	runs(t, "network 1 1 1000; buy 0 0 0 400 m1; sale 0; quiet; wait 10; cancel 0; sale 0; quiet; wait 10; holder 0 0; quiet", "ok; 0 000000000001; waiting 0 0 0; no; ok 10; ok; reversed 0 0 0; no; ok 20; 1000 0; yes")
	runs(t, "network 2 2 1000; buy 1 1 1 400 m1; buy 0 0 0 5 m2; buy 2 0 0 5 m; buy 0 0 2 5 m; buy 0 2 0 5 m; buy 0 -1 0 5 m; buy 0 0 8 5 m; buy 0 0 0 0 m; buy 0 0 0 5 m.", "ok; 0 000001000001; 0 000000000001; error 6; error 6; error 6; error 6; error 6; error 4; error 5")
	runs(t, "network 1 1 1000; cancel 0; capture 0 1; refund -1 1; sale 0; sale -1; holder 0 2; holder 1 0; wait -1; wait 8640001; wait 8640000; settle 111; settle -1; shop x; balance network; balance x; clear; total", "ok; error 6; error 6; error 6; error 6; error 6; error 6; error 6; error 14; error 14; ok 8640000; error 14; error 14; 0; 0; 0; ok 0; 2000")
	runs(t, "network 1 1 9000; buy 0 0 0 1000 m1; wait 10; capture 0 0; sale 0; wait 700000; clear; shop m1; refund 0 1000; audit; network 1 1 5; total; sale 0", "ok; 0 000000000001; ok 10; ok; approved 1000 1000 0; ok 700010; reject 000000000001-1 8; ok 1; 0; ok; clean; ok; 10; error 6")
	runs(t, "network 1 1 9000; buy 0 0 0 1000 m1; wait 10; capture 0 1; clear; balance bank:bank0; balance acq:acq0; balance network; balance shops:acq0; balance holder:bank0; settle 0; settle 0", "ok; 0 000000000001; ok 10; ok; ok 0; 0; 5; 0; -4; -1; bank0 acq0 0.01 EUR; ok 1; error 23")
}

func TestP53_2P53_3Run(t *testing.T) {
	script := "network 1 1 100\n\ncheck 1\ntotal\n"
	if got := Run(script); got != "ok\nerror 1\n200\n" {
		t.Error(got)
	}
	if got := Run(script + "fly"); got != Run(script)+"error 30\n" || Run("") != "" || Run("\n\n") != "" {
		t.Error(got)
	}
	if Run(strings.Repeat("\n", 65536)) != "" || Run(strings.Repeat("\n", 65537)) != "error 3\n" {
		t.Error("long scripts")
	}
	if got := Run("total\r\n"); got != "error 30\n" {
		t.Error(got)
	}
}

func TestP53_4Audit(t *testing.T) {
	seed := uint64(3)
	next := func(n int) string {
		seed = seed*6364136223846793005 + 1442695040888963407
		return strconv.Itoa(int(seed>>33) % n)
	}
	script := "network 2 2 5000\n"
	for range 400 {
		switch next(8) {
		case "0", "1":
			script += "buy " + next(2) + " " + next(2) + " " + next(2) + " " + next(900) + " m" + next(3) + "\n"
		case "2":
			script += "cancel " + next(9) + "\n"
		case "3", "4":
			script += "capture " + next(9) + " " + next(900) + "\n"
		case "5":
			script += "refund " + next(9) + " " + next(300) + "\n"
		case "6":
			script += "wait " + next(9000) + "\n"
		case "7":
			script += "clear\nsettle " + next(20) + "\n"
		}
		script += "audit\ntotal\n"
	}
	out := Run(script)
	if strings.Count(out, "clean\n20000\n") != 400 || !strings.Contains(out, "EUR\n") {
		t.Error(out)
	}
}
