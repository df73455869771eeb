package card

import (
	"testing"

	"cardnet/api"
)

const number = "4000000000000077"

func active(t *testing.T, expiry int, amount int64, count int) *Card {
	t.Helper()
	c, e := New(number, expiry, amount, count)
	if e != api.OK || c.Do(1) != api.OK {
		t.Fatal(e)
	}
	return c
}

func TestP14_1P14_6New(t *testing.T) {
	for i, c := range []struct {
		number string
		expiry int
		amount int64
		count  int
		e      api.Errno
	}{
		{number, 0, 0, 0, api.OK}, {number, api.MaxDate, api.MaxAmount, 1000, api.OK}, {"4000000000000078", -1, 0, 0, api.ErrChecksum}, {"1", 0, 0, 0, api.ErrShort}, {number, -1, -1, 0, api.ErrTime}, {number, api.MaxDate + 1, 0, 0, api.ErrTime},
		{number, 0, -1, 0, api.ErrRange}, {number, 0, api.MaxAmount + 1, 0, api.ErrRange}, {number, 0, 0, -1, api.ErrRange}, {number, 0, 0, 1001, api.ErrRange},
	} {
		x, e := New(c.number, c.expiry, c.amount, c.count)
		if e != c.e || (x == nil) != (e != api.OK) {
			t.Error(i, e)
		}
		if e == api.OK && (x.State() != api.CardIssued || x.Number() != number || x.Expiry() != c.expiry) {
			t.Error(i, x)
		}
	}
	var none *Card
	if sum, n := none.Used(0); sum != 0 || n != 0 || none.State() != 0 || none.Number() != "" || none.Expiry() != 0 || none.Do(1) != api.ErrNone || none.Usable(0) != api.ErrNone || none.Use(0, 0) != api.ErrNone || none.Undo(0, 0) != api.ErrNone {
		t.Error("nil card")
	}
}

func TestP14_2P14_8Next(t *testing.T) {
	want := map[[2]int]int{{1, 1}: 2, {2, 2}: 3, {3, 3}: 2, {1, 4}: 4, {2, 4}: 4, {3, 4}: 4}
	for state := -1; state <= 5; state++ {
		for event := -1; event <= 5; event++ {
			n, e := Next(state, event)
			outside := state < 1 || state > 4 || event < 1 || event > 4
			if x := want[[2]int{state, event}]; n != x || outside && e != api.ErrRange || !outside && (e == api.OK) != (x > 0) || !outside && x == 0 && e != api.ErrState {
				t.Error(state, event, n, e)
			}
		}
	}
	c := active(t, 10, 100, 1)
	if c.Do(9) != api.ErrRange || c.Do(1) != api.ErrState || c.State() != api.CardActive || c.Do(2) != api.OK || c.Use(1, 1) != api.ErrCard || c.Do(3) != api.OK || c.Do(4) != api.OK || c.State() != api.CardClosed {
		t.Error(c.State())
	}
	for event := 1; event <= 4; event++ {
		if c.Do(event) != api.ErrState || c.Usable(1) != api.ErrCard {
			t.Error(event)
		}
	}
}

func TestP14_3Usable(t *testing.T) {
	issued, _ := New(number, 10, 1, 1)
	c := active(t, 10, 1, 1)
	if issued.Usable(-1) != api.ErrCard || c.Usable(-1) != api.ErrTime || c.Usable(api.MaxDate+1) != api.ErrTime || c.Usable(11) != api.ErrCard || c.Usable(10) != api.OK || c.Usable(0) != api.OK {
		t.Error("Usable")
	}
}

func used(t *testing.T, c *Card, date int, sum int64, count int) {
	t.Helper()
	if s, n := c.Used(date); s != sum || n != count {
		t.Error(date, s, n)
	}
}

func TestP14_4P14_5P14_7Uses(t *testing.T) {
	c := active(t, 20, 1000, 2)
	if c.Undo(10, 0) != api.ErrNone || c.Undo(-5, 0) != api.ErrNone || c.Use(10, 600) != api.OK || c.Use(10, 401) != api.ErrLimit || c.Use(10, 400) != api.OK || c.Use(10, 0) != api.ErrLimit {
		t.Error("uses of a day")
	}
	used(t, c, 10, 1000, 2)
	used(t, c, 9, 0, 0)
	for i, e := range []api.Errno{c.Undo(10, -1), c.Undo(10, api.MaxAmount+1), c.Undo(9, 1), c.Undo(11, 1), c.Undo(10, 1001), c.Undo(10, 400), c.Use(10, -1), c.Use(10, api.MaxAmount+1), c.Use(21, -1), c.Use(9, 5)} {
		if e != []api.Errno{api.ErrRange, api.ErrRange, api.ErrTime, api.ErrNone, api.ErrNone, api.OK, api.ErrRange, api.ErrRange, api.ErrCard, api.ErrTime}[i] {
			t.Error(i, e)
		}
	}
	used(t, c, 10, 600, 1)
	if c.Use(11, 1000) != api.OK || c.Use(10, 1) != api.ErrTime || c.Undo(10, 1) != api.ErrTime {
		t.Error("the day before")
	}
	if c.Do(4) != api.OK || c.Undo(11, 400) != api.OK || c.Undo(11, 0) != api.ErrNone {
		t.Error("Undo of a closed card")
	}
	used(t, c, 11, 600, 0)
	none := active(t, 20, 0, 0)
	if none.Use(0, 0) != api.ErrLimit {
		t.Error("limit of no uses")
	}
	one := active(t, 20, 0, 1)
	if one.Use(0, 1) != api.ErrLimit || one.Use(0, 0) != api.OK || one.Undo(0, 1) != api.ErrNone || one.Undo(0, 0) != api.OK || one.Undo(0, 0) != api.ErrNone {
		t.Error("amount of nothing")
	}
}
