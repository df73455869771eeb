package bitmap

import (
	"slices"
	"testing"

	"cardnet/api"
)

func of(t *testing.T, l ...int) api.Bitmap {
	t.Helper()
	b, e := Of(l)
	if e != api.OK {
		t.Fatal(l, e)
	}
	return b
}

func TestP5_1Numbers(t *testing.T) {
	full := api.Bitmap{^uint64(0), ^uint64(0)}
	if Has(full, 1) || Has(full, 0) || Has(full, 129) || Has(full, -1) || Count(full) != 127 || len(List(full)) != 127 {
		t.Error("full bitmap")
	}
	b := api.Bitmap{1<<63 | 1<<62 | 1, 1<<63 | 1}
	if l := List(b); !slices.Equal(l, []int{2, 64, 65, 128}) || Count(b) != 4 || !Has(b, 2) || Has(b, 3) || !Has(b, 128) {
		t.Error(l)
	}
	if List(api.Bitmap{1 << 63, 0}) != nil {
		t.Error("the bit of the number 1")
	}
}

func TestP5_2SetClearOf(t *testing.T) {
	b, e := Set(api.Bitmap{1 << 63, 0}, 65)
	if b != (api.Bitmap{0, 1 << 63}) || e != api.OK {
		t.Error(b, e)
	}
	if b, e := Clear(api.Bitmap{1<<63 | 1<<62, 5}, 2); b != (api.Bitmap{0, 5}) || e != api.OK {
		t.Error(b, e)
	}
	if b := of(t, 3, 2, 3, 128); !slices.Equal(List(b), []int{2, 3, 128}) {
		t.Error(b)
	}
	for _, n := range []int{1, 0, -5, 129, 1 << 40} {
		x, e := Set(b, n)
		y, f := Clear(b, n)
		z, g := Of([]int{2, n})
		if e != api.ErrRange || f != api.ErrRange || g != api.ErrRange || x != y || y != z || z != (api.Bitmap{}) {
			t.Error(n, e, f, g)
		}
	}
}

func TestP5_3P5_7Sets(t *testing.T) {
	a, b := of(t, 2, 64, 65), of(t, 64, 100)
	a[0] |= 1 << 63
	if Union(a, b) != of(t, 2, 64, 65, 100) || Minus(a, b) != of(t, 2, 65) || Minus(b, a) != of(t, 100) {
		t.Error(Union(a, b), Minus(a, b))
	}
	for i := range 50 {
		x := api.Bitmap{uint64(i) * 0x9e3779b97f4a7c15, uint64(i*i) * 0xbf58476d1ce4e5b9}
		if of(t, List(x)...) != Union(x, api.Bitmap{}) || Count(Union(x, a)) != Count(x)+Count(Minus(a, x)) {
			t.Error(x)
		}
	}
}

func TestP5_4P5_5P5_6Text(t *testing.T) {
	for s, l := range map[string][]int{"6000000000000001": {2, 3, 64}, "c0000000000000008000000000000000": {2, 65}, "0000000000000000": nil, "80000000000000000000000000000001": {128}} {
		b := of(t, l...)
		if Encode(b) != s {
			t.Error(l, Encode(b))
		}
		b[0] |= 1 << 63
		if Encode(b) != s {
			t.Error(l, Encode(b))
		}
		if x, n, e := Decode(s + "xyz"); x != of(t, l...) || n != len(s) || e != api.OK {
			t.Error(s, x, n, e)
		}
	}
	for s, want := range map[string]api.Errno{
		"": api.ErrShort, "600000000000000": api.ErrShort, "600000000000000A": api.ErrFormat, "+600000000000000": api.ErrFormat, "g000000000000000": api.ErrFormat,
		"8000000000000000": api.ErrShort, "8000000000000000000000000000000": api.ErrShort, "80000000000000000000000000000000": api.ErrFormat, "8000000000000000000000000000000G": api.ErrFormat,
	} {
		if b, n, e := Decode(s); b != (api.Bitmap{}) || n != 0 || e != want {
			t.Error(s, b, n, e)
		}
	}
}
