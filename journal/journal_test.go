package journal

import (
	"slices"
	"strconv"
	"strings"
	"testing"

	"cardnet/api"
	"cardnet/checksum"
	"cardnet/disk"
)

func newDisk(t *testing.T, blocks int) *disk.Disk {
	t.Helper()
	d, e := disk.New(blocks)
	if e != api.OK {
		t.Fatal(e)
	}
	return d
}

func open(t *testing.T, d *disk.Disk) *Journal {
	t.Helper()
	j, e := Open(d)
	if e != api.OK {
		t.Fatal(e)
	}
	return j
}

func commit(t *testing.T, j *Journal, records ...string) {
	t.Helper()
	for _, r := range records {
		if e := j.Append(r); e != api.OK {
			t.Fatal(e)
		}
	}
	if e := j.Commit(); e != api.OK {
		t.Fatal(e)
	}
}

func same(a, b *Journal) bool {
	return slices.Equal(a.Records(), b.Records()) && a.Groups() == b.Groups() && a.Room() == b.Room() && a.Head() == b.Head()
}

func TestP49_1Blocks(t *testing.T) {
	b, e := Blocks(0, []string{"a"})
	if len(b) != 1 || b[0][16:] != ".050001a" || e != api.OK {
		t.Error(b, e)
	}
	b, _ = Blocks(7, []string{strings.Repeat("x", 100)})
	if len(b) != 3 || b[0][16:] != "+450100"+strings.Repeat("x", 41) || len(b[1]) != 64 || b[2][16:] != ".14"+strings.Repeat("x", 14) {
		t.Error(b)
	}
	h := checksum.Chain(7, b[0][16:])
	digits := strconv.FormatUint(checksum.Chain(h, b[1][16:]), 16)
	if b[1][:16] != strings.Repeat("0", 16-len(digits))+digits {
		t.Error(b[1])
	}
	b, _ = Blocks(7, []string{strings.Repeat("x", 30), "", strings.Repeat("y", 3)})
	if len(b) != 1 || b[0][16:] != ".450030"+strings.Repeat("x", 30)+"00000003yyy" {
		t.Error(b)
	}
	for i, c := range []struct {
		l    []string
		want api.Errno
	}{{nil, api.ErrState}, {make([]string, 257), api.ErrFull}, {append(make([]string, 257), strings.Repeat("x", 4001)), api.ErrFull}, {[]string{"", strings.Repeat("x", 4001)}, api.ErrLong}, {append(make([]string, 255), strings.Repeat("x", 4000)), api.OK}} {
		if b, e := Blocks(0, c.l); e != c.want || (b == nil) != (e != api.OK) {
			t.Error(i, e)
		}
	}
}

func TestP49_2P49_6P49_8Open(t *testing.T) {
	if j, e := Open(nil); j != nil || e != api.ErrNone {
		t.Error(e)
	}
	d := newDisk(t, 50)
	j := open(t, d)
	if j.Records() != nil || j.Groups() != 0 || j.Pending() != 0 || j.Room() != 50 || j.Head() != 0 {
		t.Error("empty journal")
	}
	commit(t, j, "a", "", strings.Repeat("x", 90))
	commit(t, j, "b|\x00\n")
	if l := j.Records(); !slices.Equal(l, []string{"a", "", strings.Repeat("x", 90), "b|\x00\n"}) || j.Groups() != 2 || j.Room() != 46 || j.Pending() != 0 {
		t.Error(l, j.Room())
	}
	if !same(j, open(t, d)) {
		t.Error("reopened journal")
	}
	j.Records()[0] = "changed"
	if j.Records()[0] != "a" {
		t.Error("Records shares memory")
	}
	d.Crash(0)
	if j, e := Open(d); j != nil || e != api.ErrDown {
		t.Error(e)
	}
}

func TestP49_2Damage(t *testing.T) {
	first, _ := Blocks(0, []string{strings.Repeat("x", 60)})
	head, _ := strconv.ParseUint(first[1][:16], 16, 64)
	second, _ := Blocks(head, []string{"b"})
	blocks := append(slices.Clone(first), second...)
	count := func(blocks []string) int {
		d := newDisk(t, 4)
		for i, b := range blocks {
			d.Write(i, b)
		}
		j := open(t, d)
		if len(j.Records()) != j.Groups() {
			t.Error(j.Records())
		}
		return j.Groups()
	}
	if count(blocks) != 2 || count(blocks[:2]) != 1 || count(blocks[:1]) != 0 || count(second) != 0 {
		t.Error("groups on a disk")
	}
	for i, b := range blocks {
		for k := range len(b) {
			changed := slices.Clone(blocks)
			changed[i] = b[:k] + string([]byte{b[k] ^ 1}) + b[k+1:]
			if n := count(changed); n != i/2 {
				t.Error(i, k, n)
			}
		}
	}
	forged := func(bodies ...string) []string {
		var l []string
		h := uint64(0)
		for _, b := range bodies {
			h = checksum.Chain(h, b)
			digits := strconv.FormatUint(h, 16)
			l = append(l, strings.Repeat("0", 16-len(digits))+digits+b)
		}
		return l
	}
	full := "0086" + strings.Repeat("x", 41)
	for i, l := range [][]string{forged(".00"), forged(".040001"), forged(".06" + "0001ab"), forged(".05" + "000xa"), forged(".5" + "0001a"), forged("+05"+"0001a", ".05"+"0001a"), forged("+45"+full, ".00"), forged(".06" + "0001a"), forged("!050001a"), forged(".03" + "000"), forged(".05"+"4001a", "x")} {
		if count(l) != 0 {
			t.Error(i, l)
		}
	}
	if count(forged("+45"+full, ".45"+strings.Repeat("x", 45))) != 1 {
		t.Error("a stream of two full payloads")
	}
	upper := forged(".050001a")
	upper[0] = strings.ToUpper(upper[0][:16]) + upper[0][16:]
	if count(upper) != 0 {
		t.Error("capital digits")
	}
	d := newDisk(t, 500)
	many := make([]string, api.MaxPending+1)
	stream := strings.Repeat("0000", len(many))
	var bodies []string
	for ; stream != ""; stream = stream[min(45, len(stream)):] {
		mark := "+"
		if len(stream) <= 45 {
			mark = "."
		}
		n := strconv.Itoa(min(45, len(stream)))
		bodies = append(bodies, mark+strings.Repeat("0", 2-len(n))+n+stream[:min(45, len(stream))])
	}
	for i, b := range forged(bodies...) {
		d.Write(i, b)
	}
	if j := open(t, d); j.Groups() != 0 {
		t.Error("too many records")
	}
}

func TestP49_3P49_5Append(t *testing.T) {
	j := open(t, newDisk(t, 2))
	if e := j.Append(strings.Repeat("x", 87)); e != api.ErrFull {
		t.Error(e)
	}
	if e := j.Append(strings.Repeat("x", 4001)); e != api.ErrLong {
		t.Error(e)
	}
	if e := j.Append(strings.Repeat("x", 86)); e != api.OK || j.Append("") != api.ErrFull || j.Pending() != 1 {
		t.Error(e)
	}
	j.Drop()
	if j.Pending() != 0 || j.Commit() != api.ErrState || j.Append(strings.Repeat("x", 41)) != api.OK || j.Append(strings.Repeat("x", 41)) != api.OK {
		t.Error("Drop")
	}
	if j.Commit() != api.OK || j.Room() != 0 || j.Append("") != api.ErrFull || j.Commit() != api.ErrState {
		t.Error("full disk")
	}
	j = open(t, newDisk(t, 4096))
	for i := range api.MaxPending {
		if e := j.Append(""); e != api.OK {
			t.Error(i, e)
		}
	}
	if j.Append("") != api.ErrFull || j.Commit() != api.OK {
		t.Error("full group")
	}
	for _, none := range []*Journal{nil, {}} {
		none.Drop()
		if none.Append("a") == api.OK || none.Commit() == api.OK || none.Records() != nil || none.Groups() != 0 || none.Pending() != 0 || none.Room() != 0 || none.Head() != 0 {
			t.Error("missing journal")
		}
	}
	if (*Journal)(nil).Append("a") != api.ErrNone || (*Journal)(nil).Commit() != api.ErrNone {
		t.Error("nil journal")
	}
}

func TestP49_4P49_7Crashes(t *testing.T) {
	groups := [][]string{{"a"}, {strings.Repeat("b", 100), "c"}, {"", "d", strings.Repeat("e", 200)}, {"f"}}
	for steps := 1; steps <= 18; steps++ {
		for _, mask := range []uint64{0, 1, 2, 5, 6, ^uint64(0), 0x5555, 0xfffe} {
			d := newDisk(t, 30)
			j := open(t, d)
			d.Arm(steps, mask)
			done := 0
			for _, g := range groups {
				for _, r := range g {
					j.Append(r)
				}
				if e := j.Commit(); e == api.OK {
					done++
				} else if e != api.ErrDown || j.Pending() != 0 || j.Append("x") != api.ErrDown || j.Commit() != api.ErrDown || j.Groups() != done {
					t.Error(steps, e)
				}
			}
			if d.Recover() != api.OK && done != len(groups) {
				t.Error(steps, done)
			}
			again := open(t, d)
			var want []string
			for _, g := range groups[:again.Groups()] {
				want = append(want, g...)
			}
			if again.Groups() < done || again.Groups() > done+1 || !slices.Equal(again.Records(), want) {
				t.Error(steps, mask, done, again.Groups())
			}
			d.Arm(0, 0)
			commit(t, again, "new")
			if !same(again, open(t, d)) {
				t.Error(steps, mask)
			}
		}
	}
}
