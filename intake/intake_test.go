package intake

import (
	"slices"
	"strconv"
	"strings"
	"testing"

	"cardnet/api"
	"cardnet/batch"
	"cardnet/checksum"
)

func rec(sender, id string, amount int64) api.Record {
	return api.Record{Kind: api.RcPresent, Id: id, Acquirer: sender, Issuer: "homebank", Merchant: "m1", Card: "4000000000000077", Amount: api.Money{Amount: amount, Currency: "EUR"}, Date: 20}
}

func file(t *testing.T, sender, id string, date int, l ...api.Record) string {
	t.Helper()
	s, e := batch.Encode(api.Batch{Id: id, Sender: sender, Date: date, Records: l})
	if e != api.OK {
		t.Fatal(e)
	}
	return s
}

// spoiled changes a file and completes it with a right check line; equal lengths keep the totals.
func spoiled(s, old, new string, n int) string {
	s = strings.Replace(s, old, new, n)
	body := s[:strings.LastIndex(s, "C|")]
	return body + "C|" + checksum.Seal(body)[len(body):] + "\n"
}

func of(t *testing.T, senders ...string) *Intake {
	t.Helper()
	x, e := New(senders)
	if e != api.OK {
		t.Fatal(e)
	}
	return x
}

func show(records []api.Record, rejects []api.Reject) string {
	s := ""
	for _, r := range records {
		s += r.Id + " "
	}
	for _, r := range rejects {
		s += strconv.Itoa(r.Index) + r.Id + strconv.Itoa(int(r.Code)) + " "
	}
	return strings.TrimSpace(s)
}

func accept(t *testing.T, x *Intake, date int, text, want string, we api.Errno) {
	t.Helper()
	records, rejects, e := x.Accept(date, text)
	if got := show(records, rejects); got != want || e != we {
		t.Errorf("%q, want %q, error %d", got, want, e)
	}
}

func TestP34_1New(t *testing.T) {
	var many []string
	for i := range 17 {
		many = append(many, "s"+strconv.Itoa(i))
	}
	for i, c := range []struct {
		l    []string
		want api.Errno
	}{{nil, api.OK}, {many[:16], api.OK}, {append(many, "a-b"), api.ErrLong}, {[]string{"a", "a-b", "a"}, api.ErrName}, {[]string{"a", "b", "a"}, api.ErrExists}} {
		if x, e := New(c.l); e != c.want || (x == nil) != (e != api.OK) {
			t.Error(i, e)
		}
	}
}

func TestP34_2P34_6Accept(t *testing.T) {
	x := of(t, "shop", "store")
	first := file(t, "shop", "F20-1", 20, rec("shop", "r1", 100), rec("shop", "r2", 50))
	accept(t, x, -1, "", "", api.ErrTime)
	accept(t, x, api.MaxDate+1, "", "", api.ErrTime)
	accept(t, x, 0, "", "", api.ErrShort)
	accept(t, x, 0, spoiled(first, "|2|150|", "|2|151|", 1), "", api.ErrChecksum)
	accept(t, x, 0, file(t, "other", "F20-1", 20), "", api.ErrNone)
	accept(t, x, 19, first, "", api.ErrTime)
	accept(t, x, 20, first, "r1 r2", api.OK)
	accept(t, x, 20, first, "", api.ErrDuplicate)
	accept(t, x, 19, first, "", api.ErrTime)
	accept(t, x, 20, file(t, "store", "F20-1", 20, rec("store", "r1", 7)), "r1", api.OK)
	accept(t, x, 25, file(t, "shop", "F20-2", 20, rec("shop", "r3", 1), rec("shop", "r1", 2), rec("shop", "r4", 3)), "r3 r4 1r115", api.OK)
	if x.Open("shop") != nil || x.Totals("shop") != (batch.Totals{Count: 4, Debit: 154, Hash: 4 * 77}) || x.Totals("store").Debit != 7 || x.Totals("x") != (batch.Totals{}) {
		t.Error(x.Totals("shop"))
	}
	for n := 3; n < api.MaxFiles; n++ {
		accept(t, x, 25, file(t, "shop", "G"+strconv.Itoa(n), 20), "", api.OK)
	}
	accept(t, x, 25, file(t, "store", "more", 20), "", api.ErrFull)
	accept(t, x, 25, first, "", api.ErrDuplicate)
}

func TestP34_4P34_7Open(t *testing.T) {
	x := of(t, "shop", "store")
	wrong := func(id string, l ...api.Record) string {
		return spoiled(file(t, "shop", id, 20, l...), "|shop|homebank|", "|shop|home-ank|", 1)
	}
	accept(t, x, 20, wrong("a", rec("shop", "r2", 5), rec("shop", "r1", 5)), "r1 0r25", api.OK)
	accept(t, x, 20, wrong("b", rec("shop", "r3", 5)), "0r35", api.OK)
	accept(t, x, 20, wrong("c", rec("shop", "r1", 5)), "0r15", api.OK)
	if l := show(nil, x.Open("shop")); l != "0r25 0r35" || x.Open("store") != nil || x.Open("x") != nil {
		t.Error(l)
	}
	accept(t, x, 20, spoiled(file(t, "shop", "d", 20, rec("shop", "r9", 5), rec("shop", "r2", 5)), "|r2|", "|r2-|", 1), "r9 r2-", api.OK)
	accept(t, x, 20, spoiled(file(t, "shop", "e", 20, rec("shop", "x", 5), rec("shop", "r2", 5)), "|20|0|0\nT", "|20|0|7\nT", 1), "x 1r22", api.OK)
	if l := show(nil, x.Open("shop")); l != "1r22 0r35" {
		t.Error(l)
	}
	accept(t, x, 20, file(t, "shop", "f", 20, rec("shop", "r2", 5)), "r2", api.OK)
	if l := show(nil, x.Open("shop")); l != "0r35" {
		t.Error(l)
	}
	accept(t, x, 20, spoiled(file(t, "shop", "g", 20, rec("shop", "r7", 5), rec("shop", "r8", 5)), "|r8|", "|r7|", 1), "r7 1r77", api.OK)
	accept(t, x, 20, spoiled(file(t, "shop", "h", 20, rec("shop", "q1", 5), rec("shop", "q2", 5)), "R|1|q1|", "R|1||", 1), "q2 05", api.OK)
	accept(t, x, 20, spoiled(spoiled(file(t, "shop", "i", 20, rec("shop", "q3", 5), rec("shop", "q4", 5)), "|q4|", "|q3|", 1), "|homebank|", "|home-ank|", 1), "q3 0q35", api.OK)
	if l := show(nil, x.Open("shop")); l != "0r35" {
		t.Error(l)
	}
}

func TestP34_3P34_5P34_8Queries(t *testing.T) {
	x := of(t, "shop", "store")
	accept(t, x, 20, file(t, "shop", "F1", 20, rec("shop", "r1", 5)), "r1", api.OK)
	accept(t, x, 20, file(t, "store", "F0", 20), "", api.OK)
	accept(t, x, 20, file(t, "store", "F1", 20, rec("store", "r2", 5)), "r2", api.OK)
	if l := x.Files(); !slices.Equal(l, []string{"F1", "F0", "F1"}) {
		t.Error(l)
	}
	if !x.Seen("shop", "r1") || x.Seen("store", "r1") || x.Seen("shop", "r2") || x.Seen("", "") {
		t.Error("Seen")
	}
	for _, none := range []*Intake{nil, {}} {
		accept(t, none, 20, file(t, "shop", "F1", 20), "", api.ErrNone)
		if none.Files() != nil || none.Seen("a", "b") || none.Open("a") != nil || none.Totals("a") != (batch.Totals{}) {
			t.Error("missing intake")
		}
	}
}
