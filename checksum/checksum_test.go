package checksum

import (
	"hash/crc32"
	"hash/fnv"
	"strings"
	"testing"

	"cardnet/api"
)

func samples() []string {
	return []string{"", "a", "123456789", "\x00\xff\x80", strings.Repeat("cardnet ", 50), "é|\n"}
}

func TestP7_1Crc(t *testing.T) {
	if Crc("123456789") != 0xcbf43926 || Crc("") != 0 {
		t.Error(Crc("123456789"))
	}
	for _, s := range samples() {
		if Crc(s) != crc32.ChecksumIEEE([]byte(s)) {
			t.Error(s)
		}
	}
}

func TestP7_2P7_3Hash(t *testing.T) {
	if Hash("") != 0xcbf29ce484222325 || Hash("a") != 0xaf63dc4c8601ec8c {
		t.Error(Hash("a"))
	}
	for _, s := range samples() {
		h := fnv.New64a()
		h.Write([]byte(s))
		if Hash(s) != h.Sum64() {
			t.Error(s)
		}
		if Chain(0x0102030405060708, s) != Hash("\x01\x02\x03\x04\x05\x06\x07\x08"+s) || Chain(0xff00000000000080, s) != Hash("\xff\x00\x00\x00\x00\x00\x00\x80"+s) {
			t.Error(s)
		}
	}
}

func TestP7_4P7_9Total(t *testing.T) {
	for want, l := range map[int64][]string{0: nil, 10000076: {"4000000000000077", "99x9999999"}, 12: {"12", ""}, 99999998: {"99999999", "99999999"}, 1002: {"1..2"}, 23456789: {"123456789"}} {
		if n := Total(l); n != want {
			t.Error(l, n)
		}
	}
	a, b := []string{"4000000000000077", "99999999"}, []string{"88888888", "x7"}
	if both := Total(append(append([]string{}, b...), a...)); both != (Total(a)+Total(b))%100000000 || both != Total([]string{a[1], b[0], a[0], b[1]}) {
		t.Error(both)
	}
}

func TestP7_5P7_6P7_8Seal(t *testing.T) {
	if Seal("a") != "ae8b7be43" || Seal("") != "00000000" {
		t.Error(Seal("a"))
	}
	for _, s := range samples() {
		if x, e := Open(Seal(s)); x != s || e != api.OK {
			t.Error(s, x, e)
		}
	}
	for s, want := range map[string]api.Errno{"": api.ErrShort, "0000000": api.ErrShort, "ae8b7be44": api.ErrChecksum, "aE8B7BE43": api.ErrChecksum, "00000001": api.ErrChecksum} {
		if x, e := Open(s); x != "" || e != want {
			t.Error(s, x, e)
		}
	}
}

func TestP7_7Detection(t *testing.T) {
	s := []byte(strings.Repeat("cardnet", 4))
	want := Crc(string(s))
	for start := range len(s)*8 - 32 {
		for _, burst := range []uint32{1, 3, 1 << 31, 0x80000001, 0xffffffff, 0xdeadbeef} {
			changed := append([]byte{}, s...)
			for j := range 32 {
				if burst>>j&1 == 1 {
					changed[(start+j)/8] ^= 1 << ((start + j) % 8)
				}
			}
			if Crc(string(changed)) == want {
				t.Error(start, burst)
			}
		}
	}
}
