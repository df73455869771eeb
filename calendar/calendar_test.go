package calendar

import (
	"testing"
	"time"

	"cardnet/api"
)

func TestP3_1P3_8Dates(t *testing.T) {
	for date := 0; date <= api.MaxDate; date++ {
		want := time.Unix(int64(date)*86400, 0).UTC()
		y, m, d := Split(date)
		if y != want.Year() || m != int(want.Month()) || d != want.Day() || Weekday(date) != (int(want.Weekday())+6)%7 {
			t.Fatal(date, y, m, d)
		}
		if date%7 == 0 || d == 1 || date > api.MaxDate-5 {
			if n, e := Of(y, m, d); n != date || e != api.OK {
				t.Fatal(date, n, e)
			}
			if n, e := Parse(Format(date)); n != date || e != api.OK || Format(date) != want.Format("2006-01-02") {
				t.Fatal(date, n, e, Format(date))
			}
		}
	}
	for _, date := range []int{-1, api.MaxDate + 1} {
		if y, m, d := Split(date); y != 0 || m != 0 || d != 0 || Weekday(date) != -1 || Format(date) != "" {
			t.Error(date)
		}
	}
	for _, c := range [][3]int{{1969, 12, 31}, {2244, 1, 1}, {2000, 0, 1}, {2000, 13, 1}, {2000, 1, 0}, {2000, 1, 32}, {2000, 12, 32}, {2000, 6, 31}, {2001, 2, 29}, {2100, 2, 29}, {2000, 4, 31}, {2243, 10, 17}, {2243, 12, 31}} {
		if n, e := Of(c[0], c[1], c[2]); n != 0 || e != api.ErrRange {
			t.Error(c, n, e)
		}
	}
}

func TestP3_2AddMonths(t *testing.T) {
	for i, c := range []struct {
		date, n int
		want    string
	}{{30, 1, "1970-02-28"}, {30, 2, "1970-03-31"}, {59, -2, "1970-01-01"}, {59, -3, ""}, {0, 0, "1970-01-01"}, {api.MaxDate, 0, "2243-10-16"}, {api.MaxDate, 1, ""}, {api.MaxDate - 5, 12, ""}, {0, 10001, ""}, {0, -10001, ""}, {-1, 1, ""}, {api.MaxDate + 1, -5, ""}, {30, 25, "1972-02-29"}, {api.MaxDate, -3285, "1970-01-16"}, {0, 10000, ""}} {
		n, e := AddMonths(c.date, c.n)
		if c.want == "" && (n != 0 || e != api.ErrRange) || c.want != "" && (Format(n) != c.want || e != api.OK) {
			t.Error(i, n, e)
		}
	}
}

func TestP3_3Times(t *testing.T) {
	last := api.MaxDate*86400 + 86399
	for at, want := range map[int][2]int{0: {0, 0}, 86401: {1, 1}, 86399: {0, 86399}, last: {api.MaxDate, 86399}, last + 1: {-1, -1}, -1: {-1, -1}, -1 << 63: {-1, -1}, api.MaxTime: {-1, -1}} {
		if d, s := Day(at); d != want[0] || s != want[1] {
			t.Error(at, d, s)
		}
	}
	if at, e := Start(1); at != 86400 || e != api.OK {
		t.Error(at, e)
	}
	for _, d := range []int{-1, api.MaxDate + 1} {
		if at, e := Start(d); at != 0 || e != api.ErrRange {
			t.Error(at, e)
		}
	}
}

func TestP3_4Text(t *testing.T) {
	for s, want := range map[string]api.Errno{"": api.ErrShort, "1970-01-1": api.ErrShort, "1970-01-011": api.ErrLong, "1970/01-01": api.ErrFormat, "1970-01/01": api.ErrFormat, "1970-0a-01": api.ErrFormat, "1970-a1-01": api.ErrFormat, "1970-01-a1": api.ErrFormat, "1970-01-0a": api.ErrFormat, "a970-01-01": api.ErrFormat, "197a-01-01": api.ErrFormat, "+970-01-01": api.ErrFormat, "1970-13-01": api.ErrRange, "2001-02-29": api.ErrRange, "9999-01-01": api.ErrRange} {
		if n, e := Parse(s); n != 0 || e != want {
			t.Error(s, n, e)
		}
	}
}

func TestP3_5New(t *testing.T) {
	if c, e := New(make([]int, 401)); c != nil || e != api.ErrLong {
		t.Error(e)
	}
	for _, l := range [][]int{{-1}, {api.MaxDate + 1}} {
		if c, e := New(l); c != nil || e != api.ErrRange {
			t.Error(e)
		}
	}
	c, e := New(append(make([]int, 399), 4))
	if e != api.OK {
		t.Fatal(e)
	}
	for date, want := range map[int]bool{0: false, 1: true, 2: false, 3: false, 4: false, 5: true, -1: false, api.MaxDate: true, api.MaxDate + 1: false} {
		if c.Business(date) != want {
			t.Error(date)
		}
	}
}

func TestP3_6P3_7P3_9Business(t *testing.T) {
	plain, _ := New(nil)
	c, _ := New([]int{4, 5, api.MaxDate})
	for i, x := range []struct {
		c       *Calendar
		date, n int
		want    int
		e       api.Errno
	}{
		{plain, 2, 0, 4, api.OK}, {plain, 1, 1, 4, api.OK}, {plain, 0, 1, 1, api.OK}, {c, 2, 0, 6, api.OK}, {c, 1, 1, 6, api.OK}, {c, 1, 0, 1, api.OK}, {c, 4, 3, 8, api.OK},
		{plain, api.MaxDate, 0, api.MaxDate, api.OK}, {c, api.MaxDate, 0, 0, api.ErrRange}, {plain, api.MaxDate, 1, 0, api.ErrRange}, {plain, -1, 0, 0, api.ErrRange}, {plain, 0, -1, 0, api.ErrRange}, {plain, 0, 1001, 0, api.ErrRange},
		{plain, 0, 1000, 1400, api.OK}, {plain, api.MaxDate + 1, 0, 0, api.ErrRange}, {nil, 0, 0, 0, api.ErrNone},
	} {
		if d, e := x.c.Add(x.date, x.n); d != x.want || e != x.e {
			t.Error(i, d, e)
		}
		if d, e := x.c.Next(x.date); x.n == 0 && (d != x.want || e != x.e) {
			t.Error(i, d, e)
		}
	}
	if plain.Count(0, 7) != 5 || c.Count(0, 7) != 3 || c.Count(7, 0) != 0 || c.Count(-1, 5) != 0 || c.Count(0, api.MaxDate+1) != 0 || (*Calendar)(nil).Count(0, 9) != 0 || (*Calendar)(nil).Business(0) {
		t.Error("Count")
	}
	for date := 0; date < 30; date++ {
		for n := 1; n < 10; n++ {
			d, _ := c.Add(date, n)
			next, _ := c.Next(d + 1)
			if x, e := c.Add(date, n+1); x != next || e != api.OK {
				t.Error(date, n, x)
			}
		}
		if c.Count(0, date)+c.Count(date, 40) != c.Count(0, 40) {
			t.Error(date)
		}
	}
}
