package batch

import (
	"slices"
	"strconv"
	"strings"
	"testing"

	"cardnet/api"
)

func rec(id string, kind int, amount int64) api.Record {
	return api.Record{Kind: kind, Id: id, Acquirer: "shop", Issuer: "homebank", Merchant: "m1", Card: "4000000000000077", Amount: api.Money{Amount: amount, Currency: "EUR"}, Date: 20}
}

func file20(l ...api.Record) api.Batch {
	return api.Batch{Id: "F20-1", Sender: "shop", Date: 20, Records: l}
}

// sealed completes lines with their check line.
func sealed(lines ...string) string {
	s := strings.Join(lines, "\n") + "\n"
	return s + "C|" + sealOf(s) + "\n"
}

func same(a, b api.Batch) bool {
	return a.Id == b.Id && a.Sender == b.Sender && a.Date == b.Date && slices.Equal(a.Records, b.Records)
}

func TestP33_1P33_8Sum(t *testing.T) {
	a := []api.Record{rec("a", 1, 100), rec("b", 2, 30), {Kind: 9, Card: "12", Amount: api.Money{Amount: 7}}}
	b := []api.Record{rec("c", 4, 5), rec("d", 3, 6), rec("e", 1, -5), rec("f", 2, api.MaxAmount+1), rec("g", 1, api.MaxAmount)}
	x, y, both := Sum(a), Sum(b), Sum(append(slices.Clone(a), b...))
	if x != (Totals{3, 100, 30, 77 + 77 + 12}) || y != (Totals{5, 5 + api.MaxAmount, 6, 5 * 77}) || Sum(nil) != (Totals{}) {
		t.Error(x, y)
	}
	if both != (Totals{x.Count + y.Count, x.Debit + y.Debit, x.Credit + y.Credit, (x.Hash + y.Hash) % 100000000}) {
		t.Error(both)
	}
}

func TestP33_2Check(t *testing.T) {
	bad, foreign := rec("a", 0, 1), rec("a", 1, 1)
	foreign.Acquirer = "other"
	var many []api.Record
	for i := range 201 {
		many = append(many, rec("r"+strconv.Itoa(i), 1, 1))
	}
	for i, c := range []struct {
		b    api.Batch
		want api.Errno
	}{
		{file20(), api.OK}, {api.Batch{Sender: "shop", Date: -1}, api.ErrName}, {api.Batch{Id: "a", Sender: "a-b"}, api.ErrName}, {api.Batch{Id: "a", Sender: "a", Date: -1, Records: many}, api.ErrTime}, {api.Batch{Id: "a", Sender: "a", Date: api.MaxDate + 1}, api.ErrTime}, {api.Batch{Id: "a", Sender: "a", Records: many}, api.ErrLong}, {file20(many[:200]...), api.OK},
		{file20(bad, foreign), api.ErrRange}, {file20(foreign, bad), api.ErrName}, {file20(rec("a", 1, 1), rec("b", 1, 1), rec("a", 2, 1)), api.ErrExists},
	} {
		s, e := Encode(c.b)
		if Check(c.b) != c.want || e != c.want || (s == "") != (e != api.OK) {
			t.Error(i, Check(c.b), e)
		}
	}
}

func TestP33_3P33_4P33_6P33_7RoundTrip(t *testing.T) {
	if s, _ := Encode(file20()); s != sealed("H|F20-1|shop|20", "T|0|0|0|0") {
		t.Error(s)
	}
	b := file20(rec("a", 1, 100), rec("b", 2, 30))
	s, e := Encode(b)
	if s != sealed("H|F20-1|shop|20", "R|1|a||shop|homebank|m1|4000000000000077|100|EUR|20|0|0", "R|2|b||shop|homebank|m1|4000000000000077|30|EUR|20|0|0", "T|2|100|30|154") || e != api.OK {
		t.Error(s, e)
	}
	if back, rejects, e := Decode(s); !same(back, b) || rejects != nil || e != api.OK {
		t.Error(back, rejects, e)
	}
	for i := range len(s) {
		for _, c := range []byte{0, '0', '1', '|', '\n', 'a', 'R', s[i] ^ 1, s[i] ^ 0x20} {
			changed := s[:i] + string([]byte{c}) + s[i+1:]
			if _, _, e := Decode(changed); e == api.OK && changed != s {
				t.Error(i, c)
			}
		}
	}
}

func TestP33_4Errors(t *testing.T) {
	const h, tr = "H|F20-1|shop|20", "T|0|0|0|0"
	long := []string{h}
	for range 201 {
		long = append(long, "R|")
	}
	long = append(long, "T|201|0|0|0")
	for i, c := range []struct {
		s    string
		want api.Errno
	}{
		{"", api.ErrShort}, {"a\nb\nc", api.ErrShort}, {sealed(h, tr) + "x", api.ErrFormat}, {sealed("H|F20-1|shop", tr), api.ErrFormat}, {sealed("H|F20-1|shop|020", tr), api.ErrFormat}, {sealed("h|F20-1|shop|20", tr), api.ErrFormat}, {sealed("H|F20-1|shop|20|", tr), api.ErrFormat}, {h + "\n" + tr + "\nC|0123\n", api.ErrFormat}, {h + "\n" + tr + "\nC|0123456G\n", api.ErrFormat}, {h + "\n" + tr + "\nc|01234567\n", api.ErrFormat},
		{sealed(h, "T|0|0|0"), api.ErrFormat}, {sealed(h, "T|0|0|0|x"), api.ErrFormat}, {sealed(h, "x", tr), api.ErrFormat}, {sealed(h, "R", tr), api.ErrFormat}, {sealed(h, "", tr), api.ErrFormat}, {h + "\n" + tr + "\nC|01234567\n", api.ErrChecksum}, {sealed(h, "T|1|0|0|0"), api.ErrChecksum}, {sealed(h, "T|0|1|0|0"), api.ErrChecksum}, {sealed(h, "T|0|0|1|0"), api.ErrChecksum}, {sealed(h, "T|0|0|0|1"), api.ErrChecksum},
		{sealed(long...), api.ErrLong}, {sealed("H|a b|shop|20", tr), api.ErrName}, {sealed("H|a|1shop|-1", tr), api.ErrName}, {sealed("H|a|shop|-1", tr), api.ErrTime}, {sealed("H|a|shop|100000", tr), api.ErrTime}, {sealed(append([]string{h}, append(slices.Repeat([]string{"R|"}, 201), "T|200|0|0|0")...)...), api.ErrChecksum},
	} {
		if b, rejects, e := Decode(c.s); !same(b, api.Batch{}) || rejects != nil || e != c.want {
			t.Error(i, b, rejects, e)
		}
	}
}

func TestP33_4Rejects(t *testing.T) {
	good := "R|1|a||shop|homebank|m1|4000000000000077|100|EUR|20|0|0"
	s := sealed("H|F20-1|shop|20",
		strings.Replace(good, "0077", "0078", 1),
		good,
		strings.Replace(good, "|a|", "|b|", 1),
		strings.Replace(good, "shop", "other", 1),
		"R|1|c",
		good,
		strings.Replace(good, "|100|", "|0100|", 1),
		"R|1|x|||||c|5||||",
		"R|2|9223372036854775807|||||5|9223372036854775807||||",
		"R|9|d||||c1234|1|5||||",
		"T|10|505|0|"+strconv.Itoa(78+4*77+0+5+1))
	b, rejects, e := Decode(s)
	want := []api.Reject{{Index: 0, Id: "a", Code: api.ErrCard}, {Index: 3, Id: "a", Code: api.ErrName}, {Index: 4, Code: api.ErrFormat}, {Index: 5, Id: "a", Code: api.ErrExists}, {Index: 6, Id: "a", Code: api.ErrFormat}, {Index: 7, Id: "x", Code: api.ErrFormat}, {Index: 8, Id: "9223372036854775807", Code: api.ErrFormat}, {Index: 9, Id: "d", Code: api.ErrFormat}}
	if e != api.OK || len(b.Records) != 2 || b.Records[1].Id != "b" || !slices.Equal(rejects, want) {
		t.Error(b, rejects, e, totals(strings.Split(s, "\n")[1:11]))
	}
}

func TestP33_5Merge(t *testing.T) {
	a, b := file20(rec("a", 1, 1)), file20(rec("b", 1, 1))
	b.Id = "x"
	m, e := Merge("both", []api.Batch{a, b})
	if !same(m, api.Batch{Id: "both", Sender: "shop", Date: 20, Records: []api.Record{rec("a", 1, 1), rec("b", 1, 1)}}) || e != api.OK {
		t.Error(m, e)
	}
	foreign, later := api.Batch{Id: "a", Sender: "other", Date: 5}, api.Batch{Id: "a", Sender: "shop", Date: 21}
	for i, c := range []struct {
		id   string
		l    []api.Batch
		want api.Errno
	}{{"", nil, api.ErrShort}, {"", []api.Batch{a, {}}, api.ErrName}, {"", []api.Batch{a, foreign}, api.ErrName}, {"", []api.Batch{a, later}, api.ErrTime}, {"", []api.Batch{a, {Id: "a", Sender: "x", Date: -1}}, api.ErrTime}, {"", []api.Batch{a, b}, api.ErrName}, {"c", []api.Batch{a, a}, api.ErrExists}, {"c", []api.Batch{a}, api.OK}} {
		if m, e := Merge(c.id, c.l); e != c.want || e != api.OK && !same(m, api.Batch{}) {
			t.Error(i, m, e)
		}
	}
}
