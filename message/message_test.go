package message

import (
	"slices"
	"strings"
	"testing"

	"cardnet/api"
	"cardnet/element"
)

func of(kind int, l ...any) api.Message {
	m := api.Message{Type: kind}
	for i := 0; i < len(l); i += 2 {
		m.Elements = append(m.Elements, api.Element{Number: l[i].(int), Value: l[i+1].(string)})
	}
	return m
}

func request() api.Message {
	return of(100, 2, "4000000000000077", 3, "000000", 4, "000000001000", 7, "0000000000005", 11, "000001", 32, "shopbank", 37, "000003000001", 41, "T1", 42, "SHOP1", 49, "EUR")
}

func TestP11_1Check(t *testing.T) {
	for i, c := range []struct {
		m    api.Message
		want api.Errno
	}{
		{request(), api.OK}, {of(1), api.OK}, {of(9999), api.OK}, {of(0, 2, "x", 2, "x"), api.ErrRange}, {of(10000), api.ErrRange}, {of(-1), api.ErrRange}, {of(1, 3, "x", 2, "x"), api.ErrFormat}, {of(1, 39, "00", 39, "00"), api.ErrFormat},
		{of(1, 5, "x"), api.ErrNone}, {of(1, 2, "", 3, "1234567"), api.ErrShort}, {of(1, 3, "1234567", 4, ""), api.ErrLong}, {of(1, 3, "abcdef"), api.ErrFormat}, {of(800, 11, "000001"), api.ErrShort}, {of(110, 37, "000003000001"), api.ErrShort}, {of(800, 11, "00000x"), api.ErrFormat},
	} {
		if e := Check(c.m); e != c.want {
			t.Error(i, e)
		}
		if s, e := Encode(c.m); e != c.want || (e != api.OK && s != "") {
			t.Error(i, s, e)
		}
	}
}

func TestP11_2P11_3P11_8Text(t *testing.T) {
	net := of(800, 11, "000001", 70, "301")
	s, e := Encode(net)
	if s != "080080200000000000000400000000000000000001301" || e != api.OK {
		t.Error(s, e)
	}
	for _, m := range []api.Message{net, request(), of(1), of(2, 41, "a b")} {
		s, _ := Encode(m)
		if back, e := Decode(s); !Same(back, m) || e != api.OK {
			t.Error(m, back, e)
		}
		if back, e := Decode(s + "0"); !Same(back, api.Message{}) || e != api.ErrLong {
			t.Error(back, e)
		}
	}
	for s, want := range map[string]api.Errno{
		"": api.ErrShort, "080": api.ErrShort, "08a0": api.ErrFormat, "0800": api.ErrShort, "08000000000000000000": api.ErrShort, "0800G000000000000000": api.ErrFormat, "00010800000000000000": api.ErrNone, "00000000000000000000": api.ErrRange, "00000000000000000000x": api.ErrRange,
		"0001400000000000000016411": api.ErrShort, "0001200000000000000000000x": api.ErrFormat, "00014000000000000000" + "20": api.ErrLong, "0001000000000000000012": api.ErrLong, "-00100000000000000000": api.ErrFormat,
	} {
		if m, e := Decode(s); !Same(m, api.Message{}) || e != want {
			t.Error(s, m, e)
		}
	}
}

func TestP11_4Get(t *testing.T) {
	m := of(1, 4, "000000000012", 4, "x", 70, "", 42, "12345678901234567890", 95, "999999999999999999", 59, "+1", 48, "1000000000000000000")
	if v, ok := Get(m, 4); v != "000000000012" || !ok {
		t.Error(v)
	}
	if v, ok := Get(m, 5); v != "" || ok {
		t.Error(v)
	}
	for n, want := range map[int]struct {
		n int64
		e api.Errno
	}{4: {12, api.OK}, 5: {0, api.ErrNone}, 70: {0, api.ErrFormat}, 42: {0, api.ErrFormat}, 95: {999999999999999999, api.OK}, 59: {0, api.ErrFormat}, 48: {0, api.ErrFormat}} {
		if x, e := Number(m, n); x != want.n || e != want.e {
			t.Error(n, x, e)
		}
	}
}

func TestP11_5With(t *testing.T) {
	m := of(1, 3, "000000", 11, "000001")
	for n, want := range map[int]api.Message{2: of(1, 2, "1", 3, "000000", 11, "000001"), 18: of(1, 3, "000000", 11, "000001", 18, "5411"), 11: of(1, 3, "000000", 11, "000009")} {
		value := map[int]string{2: "1", 18: "5411", 11: "000009"}[n]
		if x, e := With(m, n, value); !Same(x, want) || e != api.OK {
			t.Error(n, x, e)
		}
	}
	for n, want := range map[int]api.Errno{5: api.ErrNone, 39: api.ErrShort} {
		if x, e := With(m, n, "0"); !Same(x, api.Message{}) || e != want {
			t.Error(n, x, e)
		}
	}
	x, _ := With(m, 3, "111111")
	y := Without(of(1, 3, "a", 2, "b", 3, "c"), 3)
	if !Same(y, of(1, 2, "b")) || !Same(m, of(1, 3, "000000", 11, "000001")) || !Same(Without(m, 9), m) {
		t.Error(x, y, m)
	}
	z := Without(m, 9)
	z.Elements[0].Value = "changed"
	if m.Elements[0].Value != "000000" {
		t.Error("Without shares memory")
	}
}

func TestP11_6P11_7P11_9Reply(t *testing.T) {
	r, e := Reply(of(800, 11, "000001", 70, "301"), "00")
	if !Same(r, of(810, 11, "000001", 39, "00", 70, "301")) || e != api.OK {
		t.Error(r, e)
	}
	full := api.Message{Type: 420}
	for _, n := range element.All() {
		s, _ := element.Find(n)
		full.Elements = append(full.Elements, api.Element{Number: n, Value: strings.Repeat("1", s.Length)})
	}
	r, e = Reply(full, "05")
	var got []int
	for _, x := range r.Elements {
		got = append(got, x.Number)
	}
	if want := []int{2, 4, 7, 11, 32, 37, 39, 41, 42, 49, 56, 70, 100}; e != api.OK || !Answers(full, r) || !slices.Equal(got, want) || Check(r) != api.OK {
		t.Error(got, e)
	}
	if v, _ := Get(r, 39); v != "05" {
		t.Error(v)
	}
	for i, c := range []struct {
		kind int
		code string
		e    api.Errno
	}{{110, "00", api.ErrState}, {0, "00", api.ErrState}, {-100, "00", api.ErrState}, {9990, "00", api.ErrState}, {10000, "x", api.ErrState}, {9920, "00", api.OK}, {121, "00", api.ErrState}, {20, "0", api.ErrFormat}, {20, "0a", api.ErrFormat}, {20, "000", api.ErrFormat}} {
		if _, e := Reply(of(c.kind), c.code); e != c.e {
			t.Error(i, e)
		}
	}
	for i, c := range []struct {
		m, r api.Message
		want bool
	}{
		{of(100, 11, "a", 37, "b"), of(110, 11, "a", 37, "b"), true}, {of(100, 11, "a"), of(110, 11, "b"), false}, {of(100, 37, "a"), of(110), false}, {of(100), of(110, 37, "x"), true}, {of(420, 56, "a"), of(430, 56, "b"), false},
		{of(100), of(120), false}, {of(110), of(120), false}, {of(9990), of(10000), false}, {of(100, 11, ""), of(110), false},
	} {
		if Answers(c.m, c.r) != c.want {
			t.Error(i)
		}
	}
	if !Same(of(1, 2, "a"), of(1, 2, "a")) || Same(of(1, 2, "a"), of(2, 2, "a")) || Same(of(1, 2, "a"), of(1, 2, "b")) || Same(of(1, 2, "a"), of(1)) || Same(of(1), of(1, 2, "a")) {
		t.Error("Same")
	}
}
