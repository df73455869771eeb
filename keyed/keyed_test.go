package keyed

import (
	"strings"
	"testing"

	"cardnet/api"
	"cardnet/checksum"
)

func TestP9_1Mac(t *testing.T) {
	for _, data := range []string{"", "abc", "\xff"} {
		x := checksum.Hash("\x01\x02\x03\x04\x05\x06\x07\x08" + data + "\x01\x02\x03\x04\x05\x06\x07\x08")
		x ^= x >> 29
		x *= 0xbf58476d1ce4e5b9
		x ^= x >> 32
		if Mac(0x0102030405060708, data) != x {
			t.Error(data)
		}
		if Derive(77, data) != Mac(77, "derive:"+data) {
			t.Error(data)
		}
	}
	if Mac(1, "a") == Mac(2, "a") || Mac(1, "a") == Mac(1, "b") {
		t.Error("equal digests")
	}
}

func TestP9_2P9_4Code(t *testing.T) {
	for i, c := range []struct {
		mac    uint64
		digits int
		want   string
		e      api.Errno
	}{{12345, 3, "345", api.OK}, {7, 4, "0007", api.OK}, {1000000000000, 12, "000000000000", api.OK}, {5, 13, "", api.ErrRange}, {5, 0, "", api.ErrRange}, {5, -1, "", api.ErrRange}, {^uint64(0), 12, "073709551615", api.OK}} {
		if s, e := Code(c.mac, c.digits); s != c.want || e != c.e {
			t.Error(i, s, e)
		}
	}
	for n := 1; n <= 12; n++ {
		code, _ := Code(Mac(9, "data"), n)
		wrong := string(rune('0'+(code[0]-'0'+1)%10)) + code[1:]
		if !Verify(9, "data", code) || Verify(9, "data", wrong) || Verify(9, "dat", "0"+code) {
			t.Error(n, code)
		}
	}
	if Verify(9, "data", "") || Verify(9, "data", strings.Repeat("0", 13)) || Verify(9, "data", "x") {
		t.Error("Verify")
	}
}

func TestP9_3Text(t *testing.T) {
	if Text(255) != "00000000000000ff" {
		t.Error(Text(255))
	}
	for _, n := range []uint64{0, 1, 255, 1 << 63, ^uint64(0), 0x123456789abcdef0} {
		if x, e := Number(Text(n)); x != n || e != api.OK {
			t.Error(n, x, e)
		}
	}
	for _, s := range []string{"", "FF", "ff", "00000000000000FF", "000000000000000g", "000000000000000ff", "+00000000000000f"} {
		if n, e := Number(s); n != 0 || e != api.ErrFormat {
			t.Error(s, n, e)
		}
	}
}

func TestP9_5Mixing(t *testing.T) {
	seen := map[uint64]bool{}
	for i := range uint64(20000) {
		x := mix(i * 0x9e3779b97f4a7c15)
		if seen[x] {
			t.Fatal(i)
		}
		seen[x] = true
	}
}
