package books

import (
	"slices"
	"strconv"
	"strings"
	"testing"

	"cardnet/api"
	"cardnet/auth"
	"cardnet/checksum"
	"cardnet/disk"
)

const day = 86400

func setup() Setup {
	return Setup{Parties: []string{"homebank", "shopbank"}, Currency: "EUR", Cutoff: 64800, Days: 7}
}

func of(t *testing.T) *Books {
	t.Helper()
	b, e := New(setup())
	if e != api.OK {
		t.Fatal(e)
	}
	return b
}

func approve(at int, id string, amount int64) Op {
	return Op{Kind: 1, At: at, Auth: id, Amount: amount}
}

func clearing(at int, id, auth string, amount, fee int64) Op {
	return Op{Kind: 4, At: at, Id: id, Auth: auth, Issuer: "homebank", Acquirer: "shopbank", Amount: amount, Fee: fee}
}

func moving(kind, at int, id string, amount, fee int64) Op {
	return Op{Kind: kind, At: at, Id: id, Issuer: "homebank", Acquirer: "shopbank", Amount: amount, Fee: fee}
}

func do(t *testing.T, b *Books, op Op, want api.Errno) {
	t.Helper()
	before := b.Digest()
	if e := b.Do(op); e != want {
		t.Error(op, e)
	}
	if (b.Digest() == before) != (want != api.OK) && op.Kind != 8 {
		t.Error(op, "digest")
	}
}

func balances(t *testing.T, b *Books, home int64) {
	t.Helper()
	if x, y := b.Balance("party:homebank"), b.Balance("party:shopbank"); x != home || y != -home {
		t.Error(x, y)
	}
}

func show(l []api.Position) string {
	s := ""
	for _, p := range l {
		s += p.Party + " " + strconv.FormatInt(p.Net.Amount, 10) + " "
	}
	return strings.TrimSpace(s)
}

func TestP50_1New(t *testing.T) {
	for i, c := range []struct {
		s    Setup
		want api.Errno
	}{{Setup{}, api.ErrRange}, {Setup{Days: 1001}, api.ErrRange}, {Setup{Days: 1000, Holidays: []int{-1}}, api.ErrCurrency}, {Setup{Days: 1, Currency: "EUR", Holidays: []int{-1}, Cutoff: -1}, api.ErrRange}, {Setup{Days: 1, Currency: "EUR", Holidays: make([]int, 401), Cutoff: -1}, api.ErrLong}, {Setup{Days: 1, Currency: "EUR", Cutoff: 86401}, api.ErrRange}, {Setup{Days: 1, Currency: "EUR", Parties: []string{"a", "a"}}, api.ErrExists}, {Setup{Days: 1, Currency: "EUR"}, api.OK}} {
		if b, e := New(c.s); e != c.want || (b == nil) != (e != api.OK) {
			t.Error(i, e)
		}
		if b, e := Replay(c.s, nil); e != c.want || (b == nil) != (e != api.OK) {
			t.Error(i, e)
		}
	}
}

func TestP50_2P50_3P50_13Do(t *testing.T) {
	b := of(t)
	do(t, b, approve(100, "a-1", 1000), api.OK)
	do(t, b, approve(200, "a-1", 1000), api.ErrExists)
	do(t, b, clearing(200, "a-1-1", "a-1", 400, 10), api.OK)
	balances(t, b, -390)
	if a, ok := b.Auth("a-1"); !ok || auth.Open(a) != 600 || a.Until != 100+7*day {
		t.Error(a)
	}
	if s := show(b.Positions(0)); s != "homebank -390 shopbank 390" {
		t.Error(s)
	}
	do(t, b, clearing(200, "a-1-1", "x", 400, 10), api.ErrDuplicate)
	do(t, b, clearing(200, "c", "x", 400, 10), api.ErrNone)
	do(t, b, clearing(199, "c", "a-1", 400, 10), api.ErrTime)
	foreign := clearing(200, "c", "a-1", 400, 10)
	foreign.Issuer = "other"
	do(t, b, foreign, api.ErrNone)
	if a, _ := b.Auth("a-1"); a.Parts != 1 {
		t.Error(a)
	}
	do(t, b, Op{Kind: 7, At: 604899, Auth: "a-1"}, api.ErrTime)
	do(t, b, Op{Kind: 2, At: 200, Auth: "x", Amount: 5}, api.ErrNone)
	do(t, b, Op{Kind: 2, At: 200, Auth: "a-1", Amount: api.MaxAmount}, api.ErrRange)
	do(t, b, Op{Kind: 2, At: 250, Auth: "a-1", Amount: 5}, api.OK)
	if a, _ := b.Auth("a-1"); a.Until != 250+7*day || a.Approved != 1005 {
		t.Error(a)
	}
	do(t, b, Op{Kind: 3, At: 250, Auth: "x"}, api.ErrNone)
	do(t, b, Op{Kind: 3, At: 250, Auth: "a-1", Amount: 606}, api.ErrRange)
	do(t, b, Op{Kind: 3, At: 250, Auth: "a-1", Amount: 5}, api.OK)
	do(t, b, moving(5, 260, "r1", 50, 2), api.OK)
	balances(t, b, -342)
	do(t, b, moving(6, 260, "d1", 100, 0), api.OK)
	balances(t, b, -242)
	do(t, b, moving(6, 260, "d2", -40, 0), api.OK)
	balances(t, b, -282)
	do(t, b, moving(5, 260, "a-1-1", 50, 2), api.ErrDuplicate)
	do(t, b, moving(5, 260, "r2", 50, 50), api.OK)
	balances(t, b, -282)
	do(t, b, Op{Kind: 8, At: 260, Amount: 2}, api.ErrTime)
	do(t, b, Op{Kind: 8, At: 260, Amount: 1}, api.ErrState)
	do(t, b, Op{Kind: 8, At: 260, Amount: 0}, api.OK)
	do(t, b, Op{Kind: 8, At: 260, Amount: 0}, api.ErrClosed)
	do(t, b, moving(5, 300, "r3", 7, 0), api.OK)
	if s := show(b.Positions(1)); s != "homebank 7 shopbank -7" || show(b.Positions(0)) != "homebank -282 shopbank 282" {
		t.Error(s)
	}
	do(t, b, Op{Kind: 7, At: 250 + 7*day, Auth: "a-1"}, api.OK)
	do(t, b, Op{Kind: 7, At: 250 + 7*day, Auth: "a-1"}, api.ErrState)
	do(t, b, moving(5, 100000*day, "late", 7, 0), api.ErrTime)
	if b.Balance("x") != 0 || b.Positions(-1) != nil {
		t.Error("unknown")
	}
	if a, ok := b.Auth("x"); ok || a != (api.Auth{}) {
		t.Error(a)
	}
}

func TestP50_2Full(t *testing.T) {
	b := of(t)
	for i := range api.MaxAuths {
		do(t, b, approve(0, "a"+strconv.Itoa(i), 9), api.OK)
	}
	do(t, b, approve(0, "more", 9), api.ErrFull)
	do(t, b, approve(0, "a0", 9), api.ErrExists)
	for i := range api.MaxEntries {
		do(t, b, moving(6, 0, "e"+strconv.Itoa(i), -1, 0), api.OK)
	}
	do(t, b, moving(5, 0, "more", 1, 0), api.ErrFull)
	do(t, b, clearing(0, "more", "x", 1, 0), api.ErrFull)
	do(t, b, clearing(0, "e5", "x", 1, 0), api.ErrDuplicate)
	balances(t, b, -int64(api.MaxEntries))
}

func TestP50_4Digest(t *testing.T) {
	b := of(t)
	if b.Digest() != checksum.Chain(0, "0") {
		t.Error(b.Digest())
	}
	b.Do(approve(100, "b", 1000))
	b.Do(approve(100, "a", 5))
	b.Do(clearing(200, "c", "b", 400, 10))
	h := checksum.Chain(0, "c|0|party:homebank/-390/EUR|party:shopbank/390/EUR")
	if b.Digest() != checksum.Chain(h, "b/EUR/1000/0/400/0/100/604900/1;a/EUR/5/0/0/0/100/604900/0;200") {
		t.Error(b.Digest())
	}
}

func TestP50_5P50_6Text(t *testing.T) {
	full := clearing(9, "c", "a", 5, 5)
	full.Final = true
	for s, op := range map[string]Op{"1|100||a-1|||500|0|0": approve(100, "a-1", 500), "4|9|c|a|homebank|shopbank|5|5|1": full, "6|0|d||homebank|shopbank|-999999999999|0|0": moving(6, 0, "d", -api.MaxAmount, 0), "8|1099511627776|||||99999|0|0": {Kind: 8, At: api.MaxTime, Amount: api.MaxDate}, "3|0||a|||0|0|0": {Kind: 3, Auth: "a"}, "7|0||a|||0|0|0": {Kind: 7, Auth: "a"}} {
		x, e := Encode(op)
		y, f := Decode(s)
		if x != s || e != api.OK || y != op || f != api.OK {
			t.Error(s, x, e, y, f)
		}
	}
	with := func(op Op, f func(op *Op)) Op {
		f(&op)
		return op
	}
	for i, c := range []struct {
		op   Op
		want api.Errno
	}{
		{Op{At: -1}, api.ErrRange}, {Op{Kind: 9}, api.ErrRange}, {Op{Kind: 1, At: -1}, api.ErrTime}, {Op{Kind: 1, At: api.MaxTime + 1}, api.ErrTime}, {Op{Kind: 1, Id: "x", Auth: "a"}, api.ErrName}, {Op{Kind: 1}, api.ErrName}, {Op{Kind: 1, Auth: "a b"}, api.ErrName}, {Op{Kind: 1, Auth: "a", Issuer: "b"}, api.ErrName}, {Op{Kind: 1, Auth: "a", Acquirer: "b"}, api.ErrName}, {with(moving(5, 0, "r", 5, 0), func(op *Op) { op.Auth = "a" }), api.ErrName}, {with(moving(5, 0, "r", 5, 0), func(op *Op) { op.Issuer = "a-b" }), api.ErrName}, {with(moving(5, 0, "r", 5, 0), func(op *Op) { op.Acquirer = "" }), api.ErrName}, {with(moving(5, 0, "", 5, 0), func(op *Op) {}), api.ErrName}, {Op{Kind: 8, Auth: "a"}, api.ErrName}, {Op{Kind: 4, Id: "a", Issuer: "a", Acquirer: "b"}, api.ErrName},
		{approve(0, "a", 0), api.ErrRange}, {approve(0, "a", api.MaxAmount+1), api.ErrRange}, {Op{Kind: 2, Auth: "a"}, api.ErrRange}, {Op{Kind: 3, Auth: "a", Amount: -1}, api.ErrRange}, {clearing(0, "c", "a", 0, 0), api.ErrRange}, {moving(5, 0, "r", -1, 0), api.ErrRange}, {moving(6, 0, "r", 0, 0), api.ErrRange}, {moving(6, 0, "r", api.MaxAmount+1, 0), api.ErrRange}, {moving(6, 0, "r", -api.MaxAmount-1, 0), api.ErrRange}, {Op{Kind: 7, Auth: "a", Amount: 1}, api.ErrRange}, {Op{Kind: 8, Amount: -1}, api.ErrRange}, {Op{Kind: 8, Amount: api.MaxDate + 1}, api.ErrRange},
		{clearing(0, "c", "a", 5, 6), api.ErrRange}, {clearing(0, "c", "a", 5, -1), api.ErrRange}, {moving(6, 0, "r", 5, 1), api.ErrRange}, {Op{Kind: 1, Auth: "a", Amount: 5, Fee: 1, Final: true}, api.ErrRange}, {Op{Kind: 1, Auth: "a", Amount: 5, Final: true}, api.ErrFormat}, {with(moving(5, 0, "r", 5, 0), func(op *Op) { op.Issuer, op.Final = "shopbank", true }), api.ErrFormat}, {with(moving(5, 0, "r", 5, 0), func(op *Op) { op.Issuer = "shopbank" }), api.ErrExists},
	} {
		if s, e := Encode(c.op); s != "" || e != c.want {
			t.Error(i, s, e)
		}
		if e := of(t).Do(c.op); e != c.want {
			t.Error(i, e)
		}
	}
	for s, want := range map[string]api.Errno{"": api.ErrFormat, "1|100||a-1|||500|0": api.ErrFormat, "1|100||a-1|||500|0|0|": api.ErrFormat, "01|100||a-1|||500|0|0": api.ErrFormat, "1|x||a-1|||500|0|0": api.ErrFormat, "1|100||a-1||||0|0": api.ErrFormat, "1|100||a-1|||500|-0|0": api.ErrFormat, "1|100||a-1|||500|0|2": api.ErrFormat, "9|100||a-1|||500|0|0": api.ErrRange, "1|100||a-1|||500|0|1": api.ErrFormat, "1|-1||a-1|||500|0|0": api.ErrTime} {
		if op, e := Decode(s); op != (Op{}) || e != want {
			t.Error(s, op, e)
		}
	}
}

func TestP50_7P50_11Replay(t *testing.T) {
	b := of(t)
	var texts []string
	for _, op := range []Op{approve(1, "a", 100), approve(2, "b", 100), clearing(3, "c", "a", 30, 1), moving(5, 4, "r", 5, 1), {Kind: 3, At: 5, Auth: "b", Amount: 7}, {Kind: 8, At: 6}, moving(6, 7, "d", -9, 0), {Kind: 7, At: 8 * day, Auth: "b"}} {
		do(t, b, op, api.OK)
		s, _ := Encode(op)
		texts = append(texts, s)
	}
	again, e := Replay(setup(), texts)
	if e != api.OK || again.Digest() != b.Digest() || again.Balance("party:homebank") != b.Balance("party:homebank") || show(again.Positions(1)) != show(b.Positions(1)) {
		t.Error(e)
	}
	for i, c := range []struct {
		l    []string
		want api.Errno
	}{{append(slices.Clone(texts), texts[0]), api.ErrTime}, {[]string{"x", "1|1||a|||0|0|0"}, api.ErrFormat}, {[]string{texts[0], texts[0]}, api.ErrExists}} {
		if b, e := Replay(setup(), c.l); b != nil || e != c.want {
			t.Error(i, e)
		}
	}
}

func keeper(t *testing.T, d *disk.Disk) *Keeper {
	t.Helper()
	k, e := Open(setup(), d)
	if e != api.OK {
		t.Fatal(e)
	}
	return k
}

func TestP50_8P50_9P50_10Keeper(t *testing.T) {
	d, _ := disk.New(9)
	if k, e := Open(Setup{}, nil); k != nil || e != api.ErrNone {
		t.Error(e)
	}
	if k, e := Open(Setup{}, d); k != nil || e != api.ErrRange {
		t.Error(e)
	}
	k := keeper(t, d)
	books := k.Books()
	for i, c := range []struct {
		l    []Op
		want api.Errno
	}{
		{nil, api.ErrRange}, {make([]Op, 17), api.ErrRange}, {[]Op{approve(1, "a", 100), approve(1, "b", 50)}, api.OK}, {[]Op{approve(2, "c", 100), approve(2, "a", 50)}, api.ErrExists}, {[]Op{approve(2, "a", 50)}, api.ErrExists}, {[]Op{{}}, api.ErrRange}, {[]Op{approve(2, "c", 100), clearing(2, "c1", "c", 50, 0), {Kind: 8, At: 2}}, api.OK}, {slices.Repeat([]Op{{Kind: 2, At: 3, Auth: "c", Amount: 1}}, 16), api.ErrFull}, {[]Op{{Kind: 2, At: 3, Auth: "c", Amount: 1}}, api.OK},
	} {
		before := books.Digest()
		if e := k.Do(c.l); e != c.want || (books.Digest() != before) != (e == api.OK) {
			t.Error(i, e)
		}
	}
	if a, _ := books.Auth("c"); k.Count() != 6 || a.Approved != 101 || a.Cleared != 50 || k.Books() != books {
		t.Error(k.Count(), a)
	}
	again := keeper(t, d)
	if again.Count() != 6 || again.Books().Digest() != books.Digest() {
		t.Error(again.Count())
	}
	d.Arm(1, 0)
	before := books.Digest()
	op := []Op{{Kind: 3, At: 4, Auth: "c"}}
	if k.Do(op) != api.ErrDown || k.Do(op) != api.ErrDown || k.Do(nil) != api.ErrDown || books.Digest() != before || k.Count() != 6 {
		t.Error("after a crash")
	}
	if k, e := Open(setup(), d); k != nil || e != api.ErrDown {
		t.Error(e)
	}
	d.Recover()
	if again := keeper(t, d); again.Books().Digest() != before || again.Do(op) != api.OK {
		t.Error("after the recovery")
	}
	other := setup()
	other.Parties = []string{"a", "b"}
	if k, e := Open(other, d); k != nil || e != api.ErrNone {
		t.Error(e)
	}
	for _, none := range []*Keeper{nil, {}} {
		if none.Do(op) != api.ErrNone || none.Books() != nil || none.Count() != 0 {
			t.Error("missing keeper")
		}
	}
	for _, none := range []*Books{nil, {}} {
		_, ok := none.Auth("a")
		if none.Do(op[0]) != api.ErrNone || ok || none.Balance("a") != 0 || none.Positions(0) != nil {
			t.Error("missing books")
		}
	}
	if (*Books)(nil).Digest() != 0 {
		t.Error("nil books")
	}
}

func TestP50_12Crashes(t *testing.T) {
	groups := [][]Op{{approve(1, "a", 100), approve(1, "b", 50)}, {clearing(2, "c", "a", 30, 1)}, {{Kind: 3, At: 3, Auth: "b"}, moving(5, 3, "r", 5, 0), {Kind: 8, At: 3}}, {moving(6, 4, "d", 9, 0)}}
	digests := []uint64{of(t).Digest()}
	all := of(t)
	for _, g := range groups {
		for _, op := range g {
			do(t, all, op, api.OK)
		}
		digests = append(digests, all.Digest())
	}
	for steps := 1; steps <= 14; steps++ {
		for _, mask := range []uint64{0, 1, 2, 3, ^uint64(0)} {
			d, _ := disk.New(40)
			k := keeper(t, d)
			d.Arm(steps, mask)
			done := 0
			for _, g := range groups {
				if k.Do(g) == api.OK {
					done++
				}
			}
			d.Recover()
			i := slices.Index(digests, keeper(t, d).Books().Digest())
			if i < done || i > done+1 {
				t.Error(steps, mask, done, i)
			}
		}
	}
}
