package feetext

import (
	"testing"

	"cardnet/api"
)

func TestP37_1Fractions(t *testing.T) {
	for s, want := range map[string]string{
		"": "", "#": "#", "#1.5%\n": "#1.5%\n", "#\n1.5%": "#\n1  %", "# \"\n1.5%": "# \"\n1  %", "\"1.5%\"": "\"1.5%\"", "\"1.5%": "\"1.5%", "\"": "\"", "\"\"1.5%": "\"\"1  %", "\"#\"1.5%": "\"#\"1  %", "a1.5%": "a1.5%", "_1.5%": "_1.5%", "1.5.6%": "1.5  %", "12.34%5.6%": "12   %5  %", "1.5 %": "1.5 %", "1.%": "1.%", "1.5": "1.5", "1.": "1.", "1.5a%": "1.5a%", "1.5%1.5%": "1  %1  %", "1a.5%": "1a.5%", "é1.5%": "é1  %", "x 0.07%;": "x 0   %;",
	} {
		if got := masked(s); got != want {
			t.Errorf("%q gives %q, want %q", s, got, want)
		}
	}
}

func TestP37_3Limits(t *testing.T) {
	for s, want := range map[string]api.Errno{"999%": api.ErrRange, "1000.5%": api.ErrRange, "0001%": api.ErrFormat, "100%": api.OK, "99.99%": api.OK} {
		if _, e := ParsePercent(s); e != want {
			t.Error(s, e)
		}
	}
}
