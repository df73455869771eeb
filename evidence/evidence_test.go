package evidence

import (
	"slices"
	"strings"
	"testing"

	"cardnet/api"
	"cardnet/checksum"
)

func TestP45_1Describe(t *testing.T) {
	for i, c := range []struct {
		item api.Item
		want api.Errno
	}{{api.Item{Kind: "letter", Size: 1}, api.OK}, {api.Item{Kind: "letter", Size: 1000000}, api.OK}, {api.Item{Kind: "a-b", Size: 0}, api.ErrName}, {api.Item{Kind: "", Size: 1}, api.ErrName}, {api.Item{Kind: "1a", Size: 1}, api.ErrName}, {api.Item{Kind: "_a", Size: 1}, api.ErrName}, {api.Item{Kind: "a_1Z", Size: 1}, api.OK}, {api.Item{Kind: "aé", Size: 1}, api.ErrName}, {api.Item{Kind: "a\xff", Size: 1}, api.ErrName}, {api.Item{Kind: "abcdefghijklmnopq", Size: 1}, api.ErrName}, {api.Item{Kind: "abcdefghijklmnop", Size: 1}, api.OK}, {api.Item{Kind: "a"}, api.ErrRange}, {api.Item{Kind: "a", Size: 1000001}, api.ErrRange}} {
		if e := Check(c.item); e != c.want || New().Add(c.item) != c.want {
			t.Error(i, e)
		}
	}
	if i, e := Describe("letter", "abc"); i != (api.Item{Kind: "letter", Size: 3, Hash: checksum.Hash("abc")}) || e != api.OK {
		t.Error(i, e)
	}
	for _, c := range []struct {
		kind, contents string
		want           api.Errno
	}{{"a-b", "", api.ErrName}, {"a", "", api.ErrShort}, {"a", strings.Repeat("x", 4001), api.ErrLong}} {
		if i, e := Describe(c.kind, c.contents); i != (api.Item{}) || e != c.want {
			t.Error(c.kind, e)
		}
	}
	if i, e := Describe("a", strings.Repeat("x", 4000)); i.Size != 4000 || e != api.OK {
		t.Error(i, e)
	}
}

func TestP45_2Add(t *testing.T) {
	f := New()
	a, b := api.Item{Kind: "a", Size: 1}, api.Item{Kind: "a", Size: 1, Hash: 1}
	for i, e := range []api.Errno{f.Add(a), f.Add(b), f.Add(a)} {
		if e != []api.Errno{api.OK, api.OK, api.ErrExists}[i] {
			t.Error(i, e)
		}
	}
	l := f.Items()
	if !slices.Equal(l, []api.Item{a, b}) {
		t.Error(l)
	}
	l[0].Kind = "changed"
	for n := 2; n < api.MaxItems; n++ {
		f.Add(api.Item{Kind: "b", Size: n})
	}
	if f.Add(api.Item{Kind: "b"}) != api.ErrRange || f.Add(a) != api.ErrFull || f.Items()[0] != a || len(f.Items()) != api.MaxItems {
		t.Error("full folder")
	}
}

func TestP45_3P45_5Missing(t *testing.T) {
	f := New()
	i, _ := Describe("letter", "abc")
	f.Add(i)
	if l := f.Missing([]string{"photo", "letter", "a b", "photo"}); !slices.Equal(l, []string{"photo", "a b"}) || len(f.Missing([]string{"letter"})) != 0 || len(f.Missing(nil)) != 0 {
		t.Error(l)
	}
	for _, c := range []struct {
		kind, contents string
		want           bool
	}{{"letter", "abc", true}, {"letter", "abd", false}, {"photo", "abc", false}, {"letter", "", false}, {"", "abc", false}} {
		if f.Verify(c.kind, c.contents) != c.want {
			t.Error(c)
		}
	}
	f.Add(api.Item{Kind: "x", Size: 3, Hash: i.Hash})
	if f.Verify("letter", "abcd") || !f.Verify("x", "abc") {
		t.Error("Verify")
	}
}

func TestP45_4P45_6Digest(t *testing.T) {
	f, g := New(), New()
	a, b := api.Item{Kind: "a", Size: 12, Hash: ^uint64(0)}, api.Item{Kind: "b", Size: 3}
	f.Add(a)
	f.Add(b)
	g.Add(b)
	g.Add(a)
	if f.Digest() != checksum.Hash("a/12/18446744073709551615")+checksum.Hash("b/3/0") || f.Digest() != g.Digest() || New().Digest() != 0 {
		t.Error(f.Digest())
	}
	var none *Folder
	if none.Add(a) != api.ErrNone || none.Items() != nil || none.Missing([]string{"a"}) != nil || none.Verify("a", "b") || none.Digest() != 0 {
		t.Error("nil folder")
	}
}
