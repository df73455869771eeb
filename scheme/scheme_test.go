package scheme

import (
	"slices"
	"strconv"
	"testing"

	"cardnet/api"
)

var tiers = []Tier{{1, 50}, {101, 30}}

func TestP39_1Check(t *testing.T) {
	var many []Tier
	for i := range 65 {
		many = append(many, Tier{int64(i + 1), 1})
	}
	for i, c := range []struct {
		l    []Tier
		want api.Errno
	}{{tiers, api.OK}, {nil, api.ErrShort}, {many, api.ErrLong}, {many[:64], api.OK}, {[]Tier{{2, 1}}, api.ErrRange}, {[]Tier{{1, 1}, {1, 1}}, api.ErrRange}, {[]Tier{{1, -1}}, api.ErrRange}, {[]Tier{{1, 1000000001}}, api.ErrRange}, {[]Tier{{1, 1000000000}, {1<<63 - 1, 0}}, api.OK}, {[]Tier{{1, 1}, {-5, 1}}, api.ErrRange}} {
		if e := Check(c.l); e != c.want {
			t.Error(i, e)
		}
	}
}

func TestP39_2P39_6Fee(t *testing.T) {
	for n, want := range map[int64]int64{1: 50, 100: 50, 101: 30, 1000000000: 30} {
		if x, e := Marginal(tiers, n); x != want || e != api.OK {
			t.Error(n, x, e)
		}
	}
	for n, want := range map[int64]int64{0: 0, 1: 1, 2: 1, 3: 2, 100: 50, 150: 65, 101: 50, 102: 51} {
		if x, e := Fee(tiers, n); x != want || e != api.OK {
			t.Error(n, x, e)
		}
	}
	for _, n := range []int64{-1, 1000000001} {
		x, e := Marginal(tiers, n)
		y, f := Fee(tiers, n)
		if x != 0 || y != 0 || e != api.ErrRange || f != api.ErrRange {
			t.Error(n, e, f)
		}
	}
	if _, e := Marginal(tiers, 0); e != api.ErrRange {
		t.Error(e)
	}
	if _, e := Marginal(nil, 0); e != api.ErrShort {
		t.Error(e)
	}
	if _, e := Fee(nil, -1); e != api.ErrShort {
		t.Error(e)
	}
	if x, e := Fee([]Tier{{1, 1000000000}}, 1000000000); x != 0 || e != api.ErrRange {
		t.Error(x, e)
	}
	if x, e := Fee([]Tier{{1, 450359962}}, 1000000000); x != 450359962*10000000 || e != api.OK {
		t.Error(x, e)
	}
	last := int64(0)
	for n := int64(0); n < 500; n++ {
		x, _ := Fee([]Tier{{1, 49}, {7, 0}, {9, 151}, {400, 1}}, n)
		sum := int64(0)
		for k := int64(1); k <= n; k++ {
			p, _ := Marginal([]Tier{{1, 49}, {7, 0}, {9, 151}, {400, 1}}, k)
			sum += p
		}
		if x < last || x != (sum+50)/100 {
			t.Error(n, x)
		}
		last = x
	}
}

func TestP39_3P39_4P39_5Share(t *testing.T) {
	v := []Volume{{"a", 100}, {"b", 50}, {"c", 0}}
	if l, e := Share(tiers, v); !slices.Equal(l, []int64{43, 22, 0}) || e != api.OK {
		t.Error(l, e)
	}
	if n, e := Saved(tiers, v); n != 10 || e != api.OK {
		t.Error(n, e)
	}
	if n, e := Saved([]Tier{{1, 0}, {101, 30}}, v); n != -15 || e != api.OK {
		t.Error(n, e)
	}
	if l, e := Share(tiers, []Volume{{"a", 0}, {"b", 0}}); !slices.Equal(l, []int64{0, 0}) || e != api.OK {
		t.Error(l, e)
	}
	if l, e := Share(tiers, nil); len(l) != 0 || e != api.OK {
		t.Error(l, e)
	}
	var many []Volume
	for i := range 17 {
		many = append(many, Volume{"p" + strconv.Itoa(i), 1})
	}
	dear := []Tier{{1, 1000000000}}
	for i, c := range []struct {
		l     []Tier
		v     []Volume
		want  api.Errno
		saved api.Errno
	}{
		{nil, many, api.ErrShort, api.ErrShort}, {tiers, many, api.ErrLong, api.ErrLong}, {tiers, many[:16], api.OK, api.OK}, {tiers, []Volume{{"a-b", -1}}, api.ErrName, api.ErrName}, {tiers, []Volume{{"a", 1}, {"a", -1}}, api.ErrExists, api.ErrExists}, {tiers, []Volume{{"a", -1}, {"", 1}}, api.ErrRange, api.ErrRange}, {tiers, []Volume{{"a", 1000000001}}, api.ErrRange, api.ErrRange}, {tiers, []Volume{{"a", 1000000000}, {"b", 1}}, api.ErrRange, api.ErrRange}, {dear, []Volume{{"a", 900000000}}, api.ErrRange, api.ErrRange},
	} {
		l, e := Share(c.l, c.v)
		n, f := Saved(c.l, c.v)
		if e != c.want || f != c.saved || e != api.OK && (l != nil || n != 0) {
			t.Error(i, e, f)
		}
	}
}
