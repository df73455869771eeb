package reason

import (
	"slices"
	"strconv"
	"strings"
	"testing"

	"cardnet/api"
)

func fraud() api.Reason {
	return api.Reason{Code: "fraud", FileDays: 120, RepresentDays: 45, PrearbDays: 30, AnswerDays: 31, Claim: []string{"letter", "photo"}, Defence: []string{"receipt"}}
}

func same(a, b []api.Reason) bool {
	return slices.EqualFunc(a, b, func(x, y api.Reason) bool {
		return x.Code == y.Code && x.FileDays == y.FileDays && x.RepresentDays == y.RepresentDays && x.PrearbDays == y.PrearbDays && x.AnswerDays == y.AnswerDays && slices.Equal(x.Claim, y.Claim) && slices.Equal(x.Defence, y.Defence)
	})
}

func TestP44_1Check(t *testing.T) {
	with := func(f func(r *api.Reason)) []api.Reason {
		r := fraud()
		r.Code = "other"
		f(&r)
		return []api.Reason{fraud(), r}
	}
	nine := strings.Split("a b c d e f g h i", " ")
	var many []api.Reason
	for i := range 33 {
		r := fraud()
		r.Code = "r" + strconv.Itoa(i)
		many = append(many, r)
	}
	for i, c := range []struct {
		l    []api.Reason
		want api.Errno
	}{
		{nil, api.OK}, {many, api.ErrLong}, {many[:32], api.OK}, {with(func(r *api.Reason) { r.Code, r.FileDays = "a-b", 0 }), api.ErrName}, {with(func(r *api.Reason) { r.Code, r.FileDays = "fraud", 0 }), api.ErrExists}, {with(func(r *api.Reason) { r.FileDays, r.Claim = 0, nine }), api.ErrRange}, {with(func(r *api.Reason) { r.RepresentDays = 1001 }), api.ErrRange}, {with(func(r *api.Reason) { r.PrearbDays = -1 }), api.ErrRange}, {with(func(r *api.Reason) { r.AnswerDays = 0 }), api.ErrRange},
		{with(func(r *api.Reason) { r.Claim, r.Defence = nine, []string{""} }), api.ErrLong}, {with(func(r *api.Reason) { r.Claim = nine[:8] }), api.OK}, {with(func(r *api.Reason) { r.Claim = []string{"a", "claim", "a"} }), api.ErrName}, {with(func(r *api.Reason) { r.Defence = []string{"defence"} }), api.ErrName}, {with(func(r *api.Reason) { r.Defence = []string{"a", "b", "a", ""} }), api.ErrExists}, {with(func(r *api.Reason) { r.Claim, r.Defence = []string{"a"}, []string{"a"} }), api.OK}, {with(func(r *api.Reason) { r.Code, r.Claim = "claim", []string{"reason"} }), api.OK}, {with(func(r *api.Reason) { r.Claim, r.Defence = []string{"1"}, nine }), api.ErrName},
	} {
		if e := Check(c.l); e != c.want || (Format(c.l) == "") != (e != api.OK || len(c.l) == 0) {
			t.Error(i, e)
		}
	}
}

func TestP44_2P44_3P44_5Find(t *testing.T) {
	second := fraud()
	second.FileDays = 5
	l := []api.Reason{fraud(), second}
	r, ok := Find(l, "fraud")
	if !ok || !same([]api.Reason{r}, l[:1]) {
		t.Error(r)
	}
	r.Claim[0] = "changed"
	if l[0].Claim[0] != "letter" {
		t.Error("Find shares memory")
	}
	if r, ok := Find(l, "x"); ok || r.Code != "" {
		t.Error(r)
	}
	for stage, want := range map[int]int{0: 120, 1: 45, 2: 30, 3: 31} {
		if n, e := Days(fraud(), stage); n != want || e != api.OK {
			t.Error(stage, n, e)
		}
	}
	for _, stage := range []int{-1, 4, 5, 6, 7} {
		if n, e := Days(fraud(), stage); n != 0 || e != api.ErrState {
			t.Error(stage, n, e)
		}
	}
	for stage, want := range map[int]string{0: "", 1: "letter photo", 2: "receipt", 3: "", 6: ""} {
		if s := strings.Join(Needs(fraud(), stage), " "); s != want {
			t.Error(stage, s)
		}
	}
	Needs(l[0], 1)[0] = "changed"
	if l[0].Claim[0] != "letter" {
		t.Error("Needs shares memory")
	}
}

func TestP44_4P44_8Due(t *testing.T) {
	bad := fraud()
	bad.FileDays, bad.RepresentDays = 0, 1001
	for i, c := range []struct {
		r           api.Reason
		stage, date int
		want        int
		e           api.Errno
	}{{fraud(), 0, 100, 220, api.OK}, {fraud(), 1, 100, 145, api.OK}, {fraud(), 4, -1, 0, api.ErrState}, {bad, 0, -1, 0, api.ErrRange}, {bad, 1, 5, 0, api.ErrRange}, {fraud(), 0, -1, 0, api.ErrTime}, {fraud(), 0, api.MaxDate + 1, 0, api.ErrTime}, {fraud(), 0, api.MaxDate - 119, 0, api.ErrTime}, {fraud(), 0, api.MaxDate - 120, api.MaxDate, api.OK}, {fraud(), 0, 1<<63 - 1, 0, api.ErrTime}} {
		if d, e := Due(c.r, c.stage, c.date); d != c.want || e != c.e {
			t.Error(i, d, e)
		}
	}
}

func TestP44_6P44_7P44_9Text(t *testing.T) {
	empty := api.Reason{Code: "claim", FileDays: 1, RepresentDays: 2, PrearbDays: 3, AnswerDays: 4}
	l := []api.Reason{fraud(), empty}
	s := Format(l)
	if s != "reason fraud 120 45 30 31 claim letter photo defence receipt;\nreason claim 1 2 3 4 claim defence;\n" {
		t.Error(s)
	}
	if back, e, at := Parse(s); !same(back, l) || e != api.OK || at != 0 {
		t.Error(back, e, at)
	}
	if back, e, _ := Parse("#x\n reason claim 1 2 3 4 claim\tdefence ;# y"); !same(back, l[1:]) || e != api.OK {
		t.Error(back, e)
	}
	if back, e, _ := Parse(" "); back != nil || e != api.OK {
		t.Error(back, e)
	}
	many := ""
	for i := range 32 {
		many += "reason r" + strconv.Itoa(10+i) + " 1 2 3 4 claim defence;"
	}
	if back, e, _ := Parse(many); len(back) != 32 || e != api.OK {
		t.Error(e)
	}
	for s, want := range map[string]struct {
		e  api.Errno
		at int
	}{
		"reason a 1 2 3 1001 claim defence;": {api.ErrRange, 15}, "reason a 1 2 3 4 claim x x defence;": {api.ErrExists, 25}, "x": {api.ErrFormat, 0}, "reason": {api.ErrFormat, 6}, "reason 1": {api.ErrFormat, 7}, "reason a b": {api.ErrFormat, 9}, "reason a 0": {api.ErrRange, 9}, "reason a 1 2 3 claim": {api.ErrFormat, 15}, "reason a 1 2 3 4 5": {api.ErrFormat, 17}, "reason a 1 2 3 4 defence": {api.ErrFormat, 17}, "reason a 1 2 3 4 claim claim": {api.ErrFormat, 23}, "reason a 1 2 3 4 claim x;": {api.ErrFormat, 24}, "reason a 1 2 3 4 claim defence claim;": {api.ErrFormat, 31}, "reason a 1 2 3 4 claim defence defence;": {api.ErrFormat, 31},
		"reason a 1 2 3 4 claim defence x 5;": {api.ErrFormat, 33}, "reason a 1 2 3 4 claim defence": {api.ErrFormat, 30}, "reason a 1 2 3 4 claim a b c d e f g h i defence;": {api.ErrLong, 39}, "reason a 1 2 3 4 claim a b c d e f g h a defence;": {api.ErrLong, 39}, "reason a 1 2 3 4 claim a b c d e f g h defence a a;": {api.ErrExists, 49}, "reason a 1 2 3 4 claim defence; reason a": {api.ErrExists, 39}, "reason a 1 2 3 4 claim defence;; 01": {api.ErrFormat, 33}, "reason a 1 2 3 4 claim \"x\" defence;": {api.ErrFormat, 23}, many + "reason": {api.ErrLong, len(many)}, many + "x": {api.ErrFormat, len(many)}, many + "\"reason\"": {api.ErrFormat, len(many)}, "reason a -1": {api.ErrFormat, 9}, strings.Repeat(" ", 4001): {api.ErrLong, 0},
	} {
		if l, e, at := Parse(s); l != nil || e != want.e || at != want.at {
			t.Error(s, l, e, at)
		}
	}
}
