package disk

import (
	"strconv"
	"strings"
	"testing"

	"cardnet/api"
)

func of(t *testing.T, blocks int) *Disk {
	t.Helper()
	d, e := New(blocks)
	if e != api.OK {
		t.Fatal(e)
	}
	return d
}

func read(t *testing.T, d *Disk, n int, want string, we api.Errno) {
	t.Helper()
	if s, e := d.Read(n); s != want || e != we {
		t.Error(n, s, e)
	}
}

func errs(t *testing.T, got []api.Errno, want ...api.Errno) {
	t.Helper()
	for i := range want {
		if got[i] != want[i] {
			t.Error(i, got[i], want[i])
		}
	}
}

func TestP48_1P48_2Write(t *testing.T) {
	for _, n := range []int{0, -1, 4097} {
		if d, e := New(n); d != nil || e != api.ErrRange {
			t.Error(n, e)
		}
	}
	if of(t, 4096).Blocks() != 4096 {
		t.Error("Blocks")
	}
	d := of(t, 2)
	read(t, d, 0, "", api.OK)
	read(t, d, 2, "", api.ErrRange)
	read(t, d, -1, "", api.ErrRange)
	long := strings.Repeat("x", Size+1)
	errs(t, []api.Errno{d.Write(2, long), d.Write(-1, ""), d.Write(0, long), d.Write(0, long[1:]), d.Write(0, "a"), d.Write(1, "b"), d.Write(0, "c")}, api.ErrRange, api.ErrRange, api.ErrLong, api.OK, api.OK, api.OK, api.OK)
	read(t, d, 0, "c", api.OK)
	read(t, d, 1, "b", api.OK)
	for d.Pending() < 4096 {
		d.Write(1, "z")
	}
	errs(t, []api.Errno{d.Write(1, long), d.Write(1, ""), d.Flush(), d.Write(1, "")}, api.ErrLong, api.ErrFull, api.OK, api.OK)
}

func TestP48_3P48_4P48_6Crash(t *testing.T) {
	d := of(t, 2)
	errs(t, []api.Errno{d.Recover(), d.Write(0, "a"), d.Flush(), d.Write(0, "b"), d.Write(1, "c")}, api.ErrState, api.OK, api.OK, api.OK, api.OK)
	if d.Pending() != 2 || d.Down() {
		t.Error(d.Pending())
	}
	errs(t, []api.Errno{d.Crash(2), d.Crash(2), d.Write(9, ""), d.Flush(), d.Arm(-1, 0)}, api.OK, api.ErrDown, api.ErrDown, api.ErrDown, api.ErrDown)
	read(t, d, 9, "", api.ErrDown)
	if !d.Down() || d.Pending() != 0 || d.Blocks() != 2 || d.Recover() != api.OK || d.Down() {
		t.Error("after the crash")
	}
	read(t, d, 0, "a", api.OK)
	read(t, d, 1, "c", api.OK)
	d.Write(0, "x")
	d.Write(0, "y")
	d.Write(0, "z")
	d.Crash(3)
	d.Recover()
	read(t, d, 0, "y", api.OK)
	for i := range 66 {
		d.Write(0, strconv.Itoa(i))
	}
	d.Crash(1)
	d.Recover()
	read(t, d, 0, "64", api.OK)
}

func TestP48_4Arm(t *testing.T) {
	d := of(t, 2)
	errs(t, []api.Errno{d.Arm(-1, 0), d.Arm(1000001, 0), d.Arm(1, 0), d.Write(0, "a")}, api.ErrRange, api.ErrRange, api.OK, api.ErrDown)
	if !d.Down() {
		t.Error("not down")
	}
	d.Recover()
	read(t, d, 0, "", api.OK)
	errs(t, []api.Errno{d.Arm(3, 1), d.Write(0, "a"), d.Write(5, "a"), d.Flush(), d.Write(1, "b")}, api.OK, api.OK, api.ErrRange, api.OK, api.ErrDown)
	d.Recover()
	read(t, d, 0, "a", api.OK)
	read(t, d, 1, "b", api.OK)
	errs(t, []api.Errno{d.Write(0, "c"), d.Arm(1, 0), d.Flush(), d.Recover(), d.Write(0, "d"), d.Flush()}, api.OK, api.OK, api.ErrDown, api.OK, api.OK, api.OK)
	read(t, d, 0, "d", api.OK)
	errs(t, []api.Errno{d.Arm(1, 0), d.Arm(0, 9), d.Write(0, "e"), d.Arm(1, 0), d.Crash(0), d.Recover(), d.Write(0, "f")}, api.OK, api.OK, api.OK, api.OK, api.OK, api.OK, api.OK)
}

func TestP48_5P48_7All(t *testing.T) {
	for _, mask := range []uint64{0, ^uint64(0)} {
		d := of(t, 100)
		for i := range 100 {
			d.Write(i, "x")
		}
		d.Crash(mask)
		d.Recover()
		for i := range 100 {
			read(t, d, i, strings.Repeat("x", int(mask&1)), api.OK)
		}
	}
	var none *Disk
	errs(t, []api.Errno{none.Write(0, ""), none.Flush(), none.Crash(0), none.Arm(1, 0), none.Recover(), (&Disk{}).Write(0, ""), (&Disk{}).Flush()}, api.ErrNone, api.ErrNone, api.ErrNone, api.ErrNone, api.ErrNone, api.ErrRange, api.OK)
	read(t, none, 0, "", api.ErrNone)
	if none.Blocks() != 0 || none.Pending() != 0 || none.Down() {
		t.Error("nil disk")
	}
}
