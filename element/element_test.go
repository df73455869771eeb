package element

import (
	"slices"
	"strconv"
	"strings"
	"testing"

	"cardnet/api"
)

func TestP10_1P10_7Dictionary(t *testing.T) {
	all := All()
	if !slices.Equal(all, []int{2, 3, 4, 7, 11, 14, 18, 32, 37, 38, 39, 41, 42, 48, 49, 52, 54, 55, 56, 59, 70, 95, 100}) {
		t.Error(all)
	}
	all[0] = 99
	if All()[0] != 2 {
		t.Error("All shares memory")
	}
	names := map[string]bool{}
	for _, n := range All() {
		s, ok := Find(n)
		if !ok || s.Number != n || names[s.Name] || n < 2 || n > api.MaxField {
			t.Error(n, s)
		}
		names[s.Name] = true
		if k, ok := ByName(s.Name); k != n || !ok {
			t.Error(s, k)
		}
	}
	for n, want := range map[int]Spec{2: {2, "card", 1, 19, 2}, 48: {48, "extra", 2, 255, 3}, 52: {52, "cryptogram", 3, 16, 0}, 41: {41, "terminal", 2, 8, 0}} {
		if s, ok := Find(n); s != want || !ok {
			t.Error(s)
		}
	}
	table := ""
	for _, n := range All() {
		s, _ := Find(n)
		table += s.Name + " " + strconv.Itoa(s.Kind) + " " + strconv.Itoa(s.Length) + " " + strconv.Itoa(s.Var) + ", "
	}
	if table != "card 1 19 2, process 1 6 0, amount 1 12 0, sent 1 13 0, trace 1 6 0, expiry 1 5 0, category 1 4 0, acquirer 2 16 2, reference 1 12 0, approval 1 6 0, response 1 2 0, terminal 2 8 0, merchant 2 16 2, extra 2 255 3, currency 2 3 0, cryptogram 3 16 0, partial 1 12 0, counter 1 6 0, original 1 12 0, nonce 2 8 0, network 1 3 0, raise 1 12 0, receiver 2 16 2, " {
		t.Error(table)
	}
	if s, ok := Find(5); ok || s != (Spec{}) {
		t.Error(s)
	}
	if n, ok := ByName("Card"); n != 0 || ok {
		t.Error(n)
	}
}

func TestP10_2P10_3CheckEncode(t *testing.T) {
	for i, c := range []struct {
		n     int
		value string
		want  string
		e     api.Errno
	}{
		{2, "4111111111111111", "164111111111111111", api.OK}, {41, "T1", "T1      ", api.OK}, {39, "5", "", api.ErrShort}, {39, "555", "", api.ErrLong}, {39, "5a", "", api.ErrFormat}, {52, "0123456789ABCDEF", "", api.ErrFormat}, {52, "0123456789abcdef", "0123456789abcdef", api.OK},
		{5, "1", "", api.ErrNone}, {2, "", "", api.ErrShort}, {2, strings.Repeat("1", 20), "", api.ErrLong}, {41, "", "", api.ErrShort}, {41, "123456789", "", api.ErrLong}, {41, " T1", "", api.ErrFormat}, {42, "T1 ", "", api.ErrFormat}, {42, "a b", "03a b", api.OK}, {42, "~", "01~", api.OK}, {41, "a", "a       ", api.OK}, {2, "1", "011", api.OK}, {42, "a\x1fb", "", api.ErrFormat}, {42, "a\x7f", "", api.ErrFormat},
		{49, "EUR", "EUR", api.OK}, {49, "EU", "", api.ErrShort}, {49, "EU ", "", api.ErrFormat}, {48, strings.Repeat("x", 255), "255" + strings.Repeat("x", 255), api.OK}, {48, strings.Repeat("x", 256), "", api.ErrLong}, {48, "é", "", api.ErrFormat}, {2, "4 1", "", api.ErrFormat},
	} {
		s, e := Encode(c.n, c.value)
		if s != c.want || e != c.e || Check(c.n, c.value) != c.e {
			t.Error(i, s, e)
		}
		if e != api.OK {
			continue
		}
		if v, rest, e := Decode(c.n, s+"x 1"); v != c.value || rest != "x 1" || e != api.OK {
			t.Error(i, v, rest, e)
		}
	}
}

func TestP10_4P10_6Decode(t *testing.T) {
	for i, c := range []struct {
		n           int
		s           string
		value, rest string
		e           api.Errno
	}{
		{42, "05SHOP1rest", "SHOP1", "rest", api.OK}, {42, "17...", "", "", api.ErrLong}, {42, "00", "", "", api.ErrShort}, {42, "0x", "", "", api.ErrFormat}, {42, "0", "", "", api.ErrShort}, {42, "05SHOP", "", "", api.ErrShort}, {42, "02a ", "", "", api.ErrFormat},
		{5, "", "", "", api.ErrNone}, {39, "0", "", "", api.ErrShort}, {39, "0a", "", "", api.ErrFormat}, {39, "001", "00", "1", api.OK}, {41, "T1      x", "T1", "x", api.OK}, {41, "        ", "", "", api.ErrShort}, {41, " T1     ", "", "", api.ErrFormat}, {41, "T1", "", "", api.ErrShort}, {49, "EU ", "", "", api.ErrFormat}, {48, "256", "", "", api.ErrLong}, {2, "99", "", "", api.ErrLong},
	} {
		v, rest, e := Decode(c.n, c.s)
		if v != c.value || rest != c.rest || e != c.e {
			t.Error(i, v, rest, e)
		}
		if e == api.OK {
			if s, _ := Encode(c.n, v); s+rest != c.s {
				t.Error(i, s)
			}
		}
	}
}

func TestP10_5Required(t *testing.T) {
	for kind, want := range map[int][]int{
		100: {2, 3, 4, 7, 11, 32, 37, 41, 42, 49}, 110: {37, 39}, 130: {37, 39}, 120: {2, 3, 4, 7, 11, 32, 37, 39, 41, 42, 49}, 400: {2, 4, 11, 32, 37, 49, 56}, 420: {2, 4, 11, 32, 37, 49, 56},
		410: {37, 39, 56}, 430: {37, 39, 56}, 800: {11, 70}, 810: {11, 39}, 0: nil, 200: nil, -100: nil,
	} {
		l := Required(kind)
		if !slices.Equal(l, want) {
			t.Error(kind, l)
		}
		for _, n := range l {
			if _, ok := Find(n); !ok {
				t.Error(kind, n)
			}
		}
	}
}
