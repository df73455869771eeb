package wire

import (
	"strings"
	"testing"

	"cardnet/api"
)

func TestP6_1Num(t *testing.T) {
	for i, c := range []struct {
		n     int64
		width int
		want  string
		e     api.Errno
	}{{7, 3, "007", api.OK}, {999, 3, "999", api.OK}, {1000, 3, "", api.ErrRange}, {-1, 3, "", api.ErrRange}, {0, 0, "", api.ErrRange}, {0, 16, "", api.ErrRange}, {999999999999999, 15, "999999999999999", api.OK}, {0, 1, "0", api.OK}, {1 << 62, 15, "", api.ErrRange}} {
		if s, e := Num(c.n, c.width); s != c.want || e != c.e {
			t.Error(i, s, e)
		}
	}
}

func TestP6_2Alpha(t *testing.T) {
	for i, c := range []struct {
		s     string
		width int
		want  string
		e     api.Errno
	}{{"ab", 4, "ab  ", api.OK}, {"", 2, "  ", api.OK}, {" a", 2, " a", api.OK}, {"abc", 2, "", api.ErrLong}, {"a ", 4, "", api.ErrFormat}, {"a\n", 4, "", api.ErrFormat}, {"\x7f", 4, "", api.ErrFormat}, {"abc", 0, "", api.ErrRange}, {"a", 256, "", api.ErrRange}, {"a\n ", 1, "", api.ErrLong}} {
		if s, e := Alpha(c.s, c.width); s != c.want || e != c.e {
			t.Error(i, s, e)
		}
	}
	if s, e := Alpha("x", 255); len(s) != 255 || e != api.OK {
		t.Error(len(s), e)
	}
}

func TestP6_3Var(t *testing.T) {
	for i, c := range []struct {
		s      string
		digits int
		want   string
		e      api.Errno
	}{{"ab", 2, "02ab", api.OK}, {"\x00", 3, "001\x00", api.OK}, {"", 2, "00", api.OK}, {"", 1, "", api.ErrRange}, {strings.Repeat("a", 300), 4, "", api.ErrRange}, {strings.Repeat("a", 100), 2, "", api.ErrLong}, {strings.Repeat("a", 256), 3, "", api.ErrLong}} {
		if s, e := Var(c.s, c.digits); s != c.want || e != c.e {
			t.Error(i, s, e)
		}
	}
	for n, digits := range map[int]int{99: 2, 255: 3, 100: 3} {
		if s, e := Var(strings.Repeat("a", n), digits); len(s) != n+digits || e != api.OK {
			t.Error(n, e)
		}
	}
}

func TestP6_4Hex(t *testing.T) {
	all := ""
	for i := range 256 {
		all += string([]byte{byte(i)})
	}
	if s, e := Unhex(Hex(all)); s != all || e != api.OK || Hex("A\xff") != "41ff" || Hex("") != "" {
		t.Error(e)
	}
	for _, s := range []string{"4", "4G", "FF", "4 ", "414"} {
		if x, e := Unhex(s); x != "" || e != api.ErrFormat {
			t.Error(s, x, e)
		}
	}
}

func TestP6_5P6_6P6_7Reading(t *testing.T) {
	for i, c := range []struct {
		s    string
		read func(r *Reader) bool
		left int
		e    api.Errno
	}{
		{"007x", func(r *Reader) bool { return r.Num(3) == 7 }, 1, api.OK}, {"07", func(r *Reader) bool { return r.Num(3) == 0 }, 2, api.ErrShort}, {"0a7", func(r *Reader) bool { return r.Num(3) == 0 }, 3, api.ErrFormat}, {"+07", func(r *Reader) bool { return r.Num(3) == 0 }, 3, api.ErrFormat},
		{"0", func(r *Reader) bool { return r.Num(0) == 0 }, 1, api.ErrRange}, {"0", func(r *Reader) bool { return r.Num(16) == 0 }, 1, api.ErrRange}, {"999999999999999", func(r *Reader) bool { return r.Num(15) == 999999999999999 }, 0, api.OK},
		{"7", func(r *Reader) bool { return r.Num(1) == 7 }, 0, api.OK}, {"7", func(r *Reader) bool { return r.Alpha(1) == "7" }, 0, api.OK}, {strings.Repeat("~", 255), func(r *Reader) bool { return len(r.Alpha(255)) == 255 }, 0, api.OK}, {"255" + strings.Repeat("x", 255), func(r *Reader) bool { return len(r.Var(3, 255)) == 255 }, 0, api.OK}, {"a\x7f", func(r *Reader) bool { return r.Alpha(2) == "" }, 2, api.ErrFormat},
		{" a  ", func(r *Reader) bool { return r.Alpha(4) == " a" }, 0, api.OK}, {"a\n", func(r *Reader) bool { return r.Alpha(2) == "" }, 2, api.ErrFormat}, {"a", func(r *Reader) bool { return r.Alpha(2) == "" }, 1, api.ErrShort}, {"a", func(r *Reader) bool { return r.Alpha(0) == "" }, 1, api.ErrRange}, {"a", func(r *Reader) bool { return r.Alpha(256) == "" }, 1, api.ErrRange},
		{"02abc", func(r *Reader) bool { return r.Var(2, 2) == "ab" }, 1, api.OK}, {"03abc", func(r *Reader) bool { return r.Var(2, 2) == "" }, 5, api.ErrLong}, {"02a", func(r *Reader) bool { return r.Var(2, 2) == "" }, 3, api.ErrShort}, {"0xab", func(r *Reader) bool { return r.Var(2, 2) == "" }, 4, api.ErrFormat}, {"0", func(r *Reader) bool { return r.Var(2, 2) == "" }, 1, api.ErrShort},
		{"02ab", func(r *Reader) bool { return r.Var(4, 2) == "" }, 4, api.ErrRange}, {"02ab", func(r *Reader) bool { return r.Var(2, -1) == "" }, 4, api.ErrRange}, {"256a", func(r *Reader) bool { return r.Var(3, 1<<62) == "" }, 4, api.ErrLong}, {"000", func(r *Reader) bool { return r.Var(3, 0) == "" }, 0, api.OK},
		{"a\x00b", func(r *Reader) bool { return r.Take(2) == "a\x00" }, 1, api.OK}, {"a", func(r *Reader) bool { return r.Take(0) == "" }, 1, api.OK}, {"a", func(r *Reader) bool { return r.Take(2) == "" }, 1, api.ErrShort}, {"a", func(r *Reader) bool { return r.Take(-1) == "" }, 1, api.ErrRange}, {"a", func(r *Reader) bool { return r.Take(1<<63-1) == "" }, 1, api.ErrShort},
	} {
		r := NewReader(c.s)
		if !c.read(r) || r.Left() != c.left || r.Err() != c.e {
			t.Error(i, r.Left(), r.Err())
		}
	}
	r := NewReader("1234")
	if r.Take(9); r.Num(2) != 0 || r.Alpha(1) != "" || r.Var(2, 9) != "" || r.Take(-1) != "" || r.Left() != 4 || r.Err() != api.ErrShort || r.End() != api.ErrShort {
		t.Error("after an error", r.Left(), r.Err())
	}
}

func TestP6_8End(t *testing.T) {
	r := NewReader("ab")
	if r.End() != api.ErrLong || r.Err() != api.OK || r.Take(2) != "ab" || r.End() != api.OK {
		t.Error(r.End())
	}
	var none *Reader
	if none.End() != api.ErrNone || none.Err() != api.ErrNone || none.Left() != 0 || none.Num(1) != 0 || none.Take(1) != "" || none.Alpha(1) != "" || none.Var(2, 2) != "" {
		t.Error("nil reader")
	}
}

func TestP6_9P6_10RoundTrip(t *testing.T) {
	a, _ := Num(7, 3)
	b, _ := Alpha("ab", 4)
	c, _ := Var("x|y", 2)
	if a+b+c != "007ab  03x|y" {
		t.Error(a + b + c)
	}
	r := NewReader(a + b + c + "rest")
	if r.Num(3) != 7 || r.Alpha(4) != "ab" || r.Var(2, 99) != "x|y" || r.Take(4) != "rest" || r.End() != api.OK {
		t.Error(r.End())
	}
	for _, s := range []string{"    ", " a b", "zzzz"} {
		if back, e := Alpha(NewReader(s).Alpha(4), 4); back != s || e != api.OK {
			t.Error(s, back, e)
		}
	}
}
