package binrange

import (
	"slices"
	"strconv"
	"strings"
	"testing"

	"cardnet/api"
	"cardnet/pan"
)

func of(low, high string) api.Range {
	return api.Range{Low: low, High: high, Issuer: "bankone", Product: "gold"}
}

func TestP21_1Check(t *testing.T) {
	bad := of("4", "5")
	bad.Product = "1x"
	for i, c := range []struct {
		l    []api.Range
		want api.Errno
	}{
		{nil, api.OK}, {[]api.Range{of("40", "41"), of("41", "42")}, api.ErrExists}, {[]api.Range{of("41", "40")}, api.ErrRange}, {[]api.Range{of("40", "4100")}, api.ErrFormat}, {[]api.Range{of("", "")}, api.ErrFormat}, {[]api.Range{of("4a", "50")}, api.ErrFormat}, {[]api.Range{of("12345678901", "12345678901")}, api.ErrFormat},
		{[]api.Range{bad}, api.ErrName}, {[]api.Range{{Low: "4", High: "4", Product: "a"}}, api.ErrName}, {[]api.Range{of("40", "41"), of("41", "42"), of("5", "4")}, api.ErrRange}, {[]api.Range{of("4", "4"), of("40", "49"), of("1234567890", "1234567899")}, api.OK}, {make([]api.Range, 65), api.ErrLong}, {make([]api.Range, 64), api.ErrFormat},
	} {
		if e := Check(c.l); e != c.want {
			t.Error(i, e)
		}
	}
}

func TestP21_2Overlap(t *testing.T) {
	for _, c := range []struct {
		a, b api.Range
		want bool
	}{
		{of("40", "41"), of("4150", "4159"), true}, {of("40", "41"), of("4200", "4299"), false}, {of("4", "4"), of("40", "40"), true}, {of("41", "40"), of("4", "4"), false}, {of("3999", "3999"), of("4", "4"), false}, {of("1234567890", "1234567890"), of("1234567890", "1234567891"), true}, {of("", ""), of("4", "4"), false}, {api.Range{Low: "4", High: "5"}, of("5", "6"), true},
	} {
		if Overlap(c.a, c.b) != c.want || Overlap(c.b, c.a) != c.want {
			t.Error(c)
		}
	}
}

func TestP21_3P21_8Find(t *testing.T) {
	l := []api.Range{{Low: "4", High: "4", Issuer: "bankone", Product: "basic"}, {Low: "4000", High: "4099", Issuer: "banktwo", Product: "gold"}, {Low: "405", High: "405", Issuer: "bankthree", Product: "x"}}
	for prefix, want := range map[string]string{"4050": "banktwo", "41": "bankone", "4099": "banktwo", "5": "", "40": "banktwo"} {
		s, _ := pan.Make(prefix, 7, 16)
		if r, ok := Find(l, s); r.Issuer != want || ok != (want != "") {
			t.Error(prefix, r, ok)
		}
	}
	if r, ok := Find(l, "4000000000000078"); r != (api.Range{}) || ok {
		t.Error(r)
	}
	if r, ok := Find(append(l, of("4", "3")), "4000000000000077"); r != (api.Range{}) || ok {
		t.Error(r)
	}
}

func lows(l []api.Range) string {
	s := ""
	for _, r := range l {
		s += r.Low + "-" + r.High + r.Issuer[4:] + " "
	}
	return s
}

func TestP21_4Sort(t *testing.T) {
	a, b := of("39", "45"), of("39", "45")
	b.Issuer = "banktwo"
	l := []api.Range{of("4", "4"), b, of("40", "40"), of("39", "4"), a, of("", ""), of("39", "39")}
	sorted := Sort(l)
	if got := lows(sorted); got != "39-39one 39-45two 39-45one 39-4one 40-40one 4-4one -one " {
		t.Error(got)
	}
	if !slices.Equal(Sort(sorted), sorted) || l[0].Low != "4" {
		t.Error("Sort of the result")
	}
}

func TestP21_5P21_9Merge(t *testing.T) {
	two := of("400400", "400499")
	two.Issuer = "banktwo"
	l := []api.Range{of("400200", "400299"), of("400000", "400099"), of("400100", "400199"), two, of("400300", "400399"), of("4", "4"), of("5", "5"), of("0", "3"), of("500", "501")}
	m, e := Merge(l)
	if got := lows(m); got != "0-5one 400000-400399one 400400-400499two 500-501one " || e != api.OK {
		t.Error(got, e)
	}
	again, _ := Merge(m)
	if !slices.Equal(again, m) || Check(m) != api.OK || l[0].High != "400299" {
		t.Error(again)
	}
	for i := 0; i < 99999; i += 37 {
		s, _ := pan.Make("4", i, 12)
		x, _ := Find(l, s)
		y, _ := Find(m, s)
		if x.Issuer != y.Issuer || x.Product != y.Product {
			t.Error(s, x, y)
		}
	}
	if m, e := Merge([]api.Range{of("5", "4")}); m != nil || e != api.ErrRange {
		t.Error(m, e)
	}
	if m, e := Merge(nil); len(m) != 0 || e != api.OK {
		t.Error(m, e)
	}
}

func TestP21_6P21_7P21_10Text(t *testing.T) {
	l := []api.Range{of("400000", "400099"), of("4", "4"), of("0", "3")}
	s := Format(l)
	if s != "400000-400099 bankone gold;\n4-4 bankone gold;\n0-3 bankone gold;\n" {
		t.Error(s)
	}
	if back, e, at := Parse(s); !slices.Equal(back, l) || e != api.OK || at != 0 {
		t.Error(back, e, at)
	}
	if Format([]api.Range{of("5", "4")}) != "" || Format(nil) != "" {
		t.Error("Format")
	}
	if l, e, _ := Parse("# all\n4 -\t5a1 b_2#x;\n;40-41 a b;#"); len(l) != 2 || l[0] != (api.Range{Low: "4", High: "5", Issuer: "a1", Product: "b_2"}) || e != api.OK {
		t.Error(l, e)
	}
	if l, e, _ := Parse(" \n#"); len(l) != 0 || e != api.OK {
		t.Error(l, e)
	}
	many := ""
	for i := range 66 {
		many += strconv.Itoa(10+i) + "-" + strconv.Itoa(10+i) + " a b;"
	}
	for s, want := range map[string]struct {
		e  api.Errno
		at int
	}{
		"x": {api.ErrFormat, 0}, "4": {api.ErrFormat, 1}, "4-": {api.ErrFormat, 2}, "4-a": {api.ErrFormat, 2}, "4-5 1a": {api.ErrFormat, 4}, "4-5 a": {api.ErrFormat, 5}, "4-5 a b": {api.ErrFormat, 7}, "4-5 a b c": {api.ErrFormat, 8}, "4-5 a-b;": {api.ErrFormat, 5}, "4-5 a b; ?": {api.ErrFormat, 9}, "4-5 a b;\r": {api.ErrFormat, 8}, "4_5": {api.ErrFormat, 1}, "4-5 _a": {api.ErrFormat, 4},
		" 5-4 a b;": {api.ErrRange, 1}, "4-4 a b; 5-55 a b;": {api.ErrFormat, 9}, "4-4 a b; 5-5 abcdefghijklmnopq b;": {api.ErrName, 9}, "4-5 a b; 40-41 a b; 5-6 a b; 6-6 a b;": {api.ErrExists, 20}, "4-5 a b; 5-6 a b; 7-6 a b;": {api.ErrRange, 18}, many: {api.ErrLong, 64 * 10}, strings.Repeat(" ", 4001): {api.ErrLong, 0}, "4-5 a b; 4-5 a b": {api.ErrFormat, 16},
	} {
		if l, e, at := Parse(s); l != nil || e != want.e || at != want.at {
			t.Error(s, l, e, at)
		}
	}
}
