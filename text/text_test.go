package text

import "testing"

func TestNumber(t *testing.T) {
	for s, want := range map[string]int64{"0": 0, "-1": -1, "42": 42, "9223372036854775807": 1<<63 - 1, "-9223372036854775808": -1 << 63} {
		if n, ok := Number(s); n != want || !ok {
			t.Error(s, n, ok)
		}
	}
	for _, s := range []string{"", "-", "-0", "+1", "01", "1_0", " 1", "9223372036854775808", "1.0"} {
		if n, ok := Number(s); n != 0 || ok {
			t.Error(s, n, ok)
		}
	}
}

func TestForms(t *testing.T) {
	for s, want := range map[string][2]bool{"a": {true, true}, "a_1": {true, true}, "1a": {false, true}, "_a": {false, true}, "a-b": {false, true}, "": {false, false}, "abcdefghijklmnop": {true, true}, "abcdefghijklmnopq": {false, false}, "a b": {false, false}, "\xff": {false, false}} {
		if got := [2]bool{Name(s, 16), Ident(s, 16, "")}; got != want {
			t.Error(s, got)
		}
	}
	if !Ident("a:b", 40, ":") || Ident("a:b", 40, "") {
		t.Error("further bytes")
	}
	if !Currency("EUR") || Currency("EU") || Currency("EUr") || Currency("EURO") {
		t.Error("Currency")
	}
	if !Digits("07") || Digits("") || Digits("7a") || !LowerHex("0f") || LowerHex("F") {
		t.Error("digits")
	}
	if Padded(7, 3) != "007" || Hex(255) != "00000000000000ff" {
		t.Error("padding")
	}
}
