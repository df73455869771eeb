package lexer

import (
	"slices"
	"strings"
	"testing"

	"cardnet/api"
)

func TestP8_1Scan(t *testing.T) {
	l, e, at := Scan("rule a when amount <= 100")
	want := []api.Lexeme{{Kind: api.LxName, Text: "rule"}, {Kind: api.LxName, Text: "a", At: 5}, {Kind: api.LxName, Text: "when", At: 7}, {Kind: api.LxName, Text: "amount", At: 12}, {Kind: api.LxMark, Text: "<=", At: 19}, {Kind: api.LxNumber, N: 100, At: 22}, {Kind: api.LxEnd, At: 25}}
	if !slices.Equal(l, want) || e != api.OK || at != 0 {
		t.Error(l, e, at)
	}
	l, e, _ = Scan("\t\"x y\"!=0# rest\n # more\n(){},;:=<>+-*%.>=a_1")
	var texts []string
	for _, x := range l {
		texts = append(texts, x.Text)
	}
	if got := strings.Join(texts, "|"); got != "x y|!=||(|)|{|}|,|;|:|=|<|>|+|-|*|%|.|>|=|a_1|" || e != api.OK {
		t.Error(got, e)
	}
	for s, want := range map[string]struct {
		e  api.Errno
		at int
	}{
		"12a": {api.ErrFormat, 0}, "a 01": {api.ErrFormat, 2}, "1_0": {api.ErrFormat, 0}, "_a": {api.ErrFormat, 0}, " !": {api.ErrFormat, 1}, "a\r": {api.ErrFormat, 1}, "a\"b": {api.ErrFormat, 1}, "\"a\nb\"": {api.ErrFormat, 0}, "\"\x80\"": {api.ErrFormat, 0}, "\"\x7f\"": {api.ErrFormat, 0}, "\"\x1f\"": {api.ErrFormat, 0},
		"abcdefghijklmnopq": {api.ErrLong, 0}, "9007199254740993": {api.ErrRange, 0}, "1 99999999999999999999": {api.ErrRange, 2}, "é": {api.ErrFormat, 0}, "aé": {api.ErrFormat, 1}, "a & 01": {api.ErrFormat, 2},
		" \"" + strings.Repeat("a", 101) + "\"": {api.ErrLong, 1}, "\"" + strings.Repeat("a", 101): {api.ErrFormat, 0}, strings.Repeat(" ", 4001): {api.ErrLong, 0}, "\x00": {api.ErrFormat, 0}, "/": {api.ErrFormat, 0}, "00": {api.ErrFormat, 0},
	} {
		if l, e, at := Scan(s); l != nil || e != want.e || at != want.at {
			t.Error(s, l, e, at)
		}
	}
	for _, s := range []string{"9007199254740992", "abcdefghijklmnop", "zZaA_09", "Z", "A", "z", "9", "\" ~\"", "\"" + strings.Repeat("a", 100) + "\"", "\"\"", "#é"} {
		if l, e, _ := Scan(s); len(l) > 2 || e != api.OK {
			t.Error(s, l, e)
		}
	}
	if l, e, _ := Scan(strings.Repeat(" ", 4000)); len(l) != 1 || l[0] != (api.Lexeme{At: 4000}) || e != api.OK {
		t.Error(l, e)
	}
}

func TestP8_2P8_6P8_7Print(t *testing.T) {
	for s, want := range map[string]string{"a<=1": "a <= 1", "": "", "#x": "", "f( \"a b\" ,0)": "f ( \"a b\" , 0 )", "1234567890": "1234567890"} {
		l, _, _ := Scan(s)
		if Print(l) != want {
			t.Error(s, Print(l))
		}
		again, e, _ := Scan(Print(l))
		if len(again) != len(l) || e != api.OK {
			t.Error(s, again)
		}
		for i := range l {
			a, b := l[i], again[i]
			if i > 0 && a.At <= l[i-1].At || a.Kind == api.LxName && !strings.HasPrefix(s[a.At:], a.Text) {
				t.Error(s, a)
			}
			if a.At, b.At = 0, 0; a != b {
				t.Error(s, a, b)
			}
		}
	}
	if s := Print([]api.Lexeme{{Kind: 9, Text: "x"}, {Kind: api.LxNumber, N: -5, Text: "x"}, {Kind: -1}}); s != "-5" {
		t.Error(s)
	}
}

func TestP8_3IsName(t *testing.T) {
	for s, want := range map[string]bool{"a": true, "Z_9": true, "": false, "9a": false, "_": false, "a-b": false, "abcdefghijklmnop": true, "abcdefghijklmnopq": false, "aé": false} {
		if IsName(s) != want {
			t.Error(s)
		}
	}
}

func TestP8_4P8_5Scanner(t *testing.T) {
	c, e, at := NewScanner("fee x + \"x\"")
	if e != api.OK || at != 0 {
		t.Fatal(e, at)
	}
	if c.Mark("fee") || c.Word("fe") || !c.Word("fee") || c.Peek().Text != "x" || c.Next().Text != "x" || c.Word("+") || !c.Mark("+") || c.Word("x") || c.Mark("x") {
		t.Error(c.Peek())
	}
	if c.Next().Kind != api.LxText || c.Next().At != 11 || c.Next().At != 11 || c.Peek().Kind != api.LxEnd || c.Word("") || c.Mark("") {
		t.Error(c.Peek())
	}
	if c, e, at := NewScanner("a ?"); c != nil || e != api.ErrFormat || at != 2 {
		t.Error(c, e, at)
	}
	var none *Scanner
	if none.Peek() != (api.Lexeme{}) || none.Next() != (api.Lexeme{}) || none.Mark("") || none.Word("a") {
		t.Error("nil scanner")
	}
}
