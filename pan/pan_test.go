package pan

import (
	"strings"
	"testing"

	"cardnet/api"
)

func TestP4_1Luhn(t *testing.T) {
	for s, want := range map[string]bool{"79927398713": true, "79927398710": false, "": false, "0": true, "18": true, "5": false, "a": false, "1 8": false, "\xff\xfe": false, "é0": false, strings.Repeat("0", 100): true} {
		if Luhn(s) != want {
			t.Error(s)
		}
	}
}

func TestP4_2CheckDigit(t *testing.T) {
	for s, want := range map[string]byte{"7992739871": '3', "411111111111111": '1', "0": '0', "1": '8', strings.Repeat("0", 18): '0'} {
		if d, e := CheckDigit(s); d != want || e != api.OK || !Luhn(s+string(rune(d))) {
			t.Error(s, d, e)
		}
	}
	for s, want := range map[string]api.Errno{"": api.ErrShort, strings.Repeat("a", 19): api.ErrLong, "12a": api.ErrFormat, "é": api.ErrFormat} {
		if d, e := CheckDigit(s); d != 0 || e != want {
			t.Error(s, d, e)
		}
	}
}

func TestP4_3Check(t *testing.T) {
	for s, want := range map[string]api.Errno{
		"4111111111111111": api.OK, "4111111111111112": api.ErrChecksum, "79927398713": api.ErrShort, "": api.ErrShort, strings.Repeat("0", 12): api.OK, strings.Repeat("0", 19): api.OK,
		strings.Repeat("0", 20): api.ErrLong, "411111111111111a": api.ErrFormat, "4111 1111 1111 1": api.ErrFormat,
	} {
		if e := Check(s); e != want {
			t.Error(s, e)
		}
	}
}

func TestP4_4P4_5P4_11Make(t *testing.T) {
	if s, e := Make("400000", 7, 16); s != "4000000000000077" || e != api.OK {
		t.Error(s, e)
	}
	for i, c := range []struct {
		prefix    string
		n, length int
	}{{"4", 0, 11}, {"4", 0, 20}, {"", 0, 16}, {"12345678901", 0, 16}, {"4a", 0, 16}, {"4", -1, 16}, {"4000000000", 10, 12}, {"4", 1 << 62, 19}, {"40", 1e10, 13}} {
		if s, e := Make(c.prefix, c.n, c.length); s != "" || e != api.ErrRange {
			t.Error(i, s, e)
		}
	}
	if s, e := Make("4000000000", 9, 12); len(s) != 12 || e != api.OK {
		t.Error(s, e)
	} else if n, ok := Index("4000000000", s); n != 9 || !ok {
		t.Error(n, ok)
	}
	last := ""
	for _, n := range []int{0, 1, 9, 10, 999, 123456, 999999999} {
		s, e := Make("400000", n, 16)
		if e != api.OK || s <= last || Check(s) != api.OK {
			t.Error(n, s, e)
		}
		if k, ok := Index("400000", s); k != n || !ok {
			t.Error(n, k, ok)
		}
		last = s
	}
	if n, ok := Index("4", "4999999999999999996"); ok && n == 0 {
		t.Error(n, ok)
	}
	if s, e := Make("4", 99999999999999999, 19); e != api.OK {
		t.Error(s, e)
	} else if n, ok := Index("4", s); n != 99999999999999999 || !ok {
		t.Error(n, ok)
	}
	for _, c := range [][2]string{{"5", "4000000000000077"}, {"", "4000000000000077"}, {"400000", "4000000000000078"}, {"400000", ""}, {"40000000000", "4000000000000077"}, {"4000000000000077", "4000000000000077"}} {
		if n, ok := Index(c[0], c[1]); n != 0 || ok {
			t.Error(c, n, ok)
		}
	}
}

func TestP4_6Mask(t *testing.T) {
	for s, want := range map[string]string{"4000000000000077": "400000******0077", "4000000000000078": "****************", "": "", "é": "**", "000000000000": "000000**0000"} {
		if Mask(s) != want {
			t.Error(s, Mask(s))
		}
	}
}

func TestP4_7Within(t *testing.T) {
	for _, c := range []struct {
		s, low, high string
		want         bool
	}{
		{"4000000000000077", "399999", "400000", true}, {"4000000000000077", "400001", "400002", false}, {"4000", "4000", "4000", true}, {"4000", "40000", "40000", false}, {"4000", "", "", false},
		{"4000", "39", "4", false}, {"400a", "40", "40", false}, {"4000", "4a", "50", false}, {"4000", "30", "4a", false}, {"4000", "50", "30", false}, {"", "", "", false},
	} {
		if Within(c.s, c.low, c.high) != c.want {
			t.Error(c)
		}
	}
}

func TestP4_8P4_9P4_12Groups(t *testing.T) {
	for s, want := range map[string]string{"": "", "1234": "1234", "12345": "1234 5", "4000000000000077": "4000 0000 0000 0077", "a\xffbcd": "a\xffbc d"} {
		if Group(s) != want {
			t.Error(s, Group(s))
		}
	}
	for s, want := range map[string]api.Errno{"": api.ErrShort, "4000--0000": api.ErrFormat, "4000 -0000": api.ErrFormat, " 4000": api.ErrFormat, "4000-": api.ErrFormat, "40.00": api.ErrFormat, "4000-0000": api.ErrShort, "4000-0000 0000 0078": api.ErrChecksum, strings.Repeat("0", 20): api.ErrLong} {
		if x, e := Strip(s); x != "" || e != want {
			t.Error(s, x, e)
		}
	}
	if x, e := Strip("4000-0000 0000 0077"); x != "4000000000000077" || e != api.OK {
		t.Error(x, e)
	}
	for length := 12; length <= 19; length++ {
		s, _ := Make("51", 4321, length)
		if x, e := Strip(Group(s)); x != s || e != api.OK {
			t.Error(s, x, e)
		}
	}
}

func TestP4_10Detection(t *testing.T) {
	s := "4000000912345670"
	digit, _ := CheckDigit(s)
	s += string(rune(digit))
	for i := range len(s) {
		for d := byte('0'); d <= '9'; d++ {
			if d != s[i] && Luhn(s[:i]+string(rune(d))+s[i+1:]) {
				t.Error(i, d)
			}
		}
		if i == 0 || s[i] == s[i-1] {
			continue
		}
		swapped := s[:i-1] + string(rune(s[i])) + string(rune(s[i-1])) + s[i+1:]
		if nines := s[i] == '9' && s[i-1] == '0' || s[i] == '0' && s[i-1] == '9'; Luhn(swapped) != nines {
			t.Error(i, swapped)
		}
	}
}
