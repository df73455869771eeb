package dispute

import (
	"slices"
	"strconv"
	"strings"
	"testing"

	"cardnet/api"
)

func reasons() []api.Reason {
	return []api.Reason{{Code: "fraud", FileDays: 120, RepresentDays: 45, PrearbDays: 30, AnswerDays: 20, Claim: []string{"letter", "photo"}, Defence: []string{"receipt"}}, {Code: "other", FileDays: 1, RepresentDays: 1, PrearbDays: 1, AnswerDays: 1}}
}

func rec(id string) api.Record {
	return api.Record{Kind: api.RcPresent, Id: id, Acquirer: "shop", Issuer: "bank", Merchant: "m", Card: "4000000000000077", Amount: api.Money{Amount: 1000, Currency: "EUR"}, Date: 100}
}

func items(kinds ...string) []api.Item {
	var l []api.Item
	for _, k := range kinds {
		l = append(l, api.Item{Kind: k, Size: 1})
	}
	return l
}

func desk(t *testing.T) *Desk {
	t.Helper()
	d, e := New(reasons())
	if e != api.OK {
		t.Fatal(e)
	}
	return d
}

func open(t *testing.T, d *Desk, id string, date int) {
	t.Helper()
	if e := d.Open(id, rec("r-"+id), "fraud", 600, date, items("photo", "letter")); e != api.OK {
		t.Fatal(e)
	}
}

func TestP46_1Next(t *testing.T) {
	want := map[[2]int]int{{1, 1}: 2, {1, 4}: 5, {1, 7}: 5, {2, 2}: 3, {2, 4}: 6, {2, 7}: 6, {3, 3}: 4, {3, 4}: 5, {3, 7}: 5, {4, 5}: 5, {4, 6}: 6}
	for stage := -1; stage <= 8; stage++ {
		for event := -1; event <= 9; event++ {
			n, e := Next(stage, event)
			outside := stage < 1 || stage > 6 || event < 1 || event > 7
			w := want[[2]int{stage, event}]
			if n != w || outside && e != api.ErrRange || !outside && w == 0 && e != api.ErrState || w > 0 && e != api.OK {
				t.Error(stage, event, n, e)
			}
		}
		if turn := Turn(stage); turn != map[int]int{1: 1, 2: 2, 3: 1, 4: 3}[stage] {
			t.Error(stage, turn)
		}
	}
}

func TestP46_2P46_3Open(t *testing.T) {
	if d, e := New(make([]api.Reason, 33)); d != nil || e != api.ErrLong {
		t.Error(e)
	}
	d := desk(t)
	open(t, d, "a", 220)
	if c, ok := d.Get("a"); !ok || c != (api.Case{Id: "a", Record: "r-a", Reason: "fraud", Issuer: "bank", Acquirer: "shop", Amount: api.Money{Amount: 600, Currency: "EUR"}, Stage: api.DsChargeback, Opened: 220, Due: 265}) {
		t.Error(c)
	}
	with := func(f func(r *api.Record)) api.Record {
		r := rec("r-a")
		f(&r)
		return r
	}
	good := items("letter", "photo")
	for i, c := range []struct {
		id     string
		r      api.Record
		code   string
		amount int64
		date   int
		items  []api.Item
		want   api.Errno
	}{
		{"a b", api.Record{}, "", 0, -1, nil, api.ErrName}, {"a", api.Record{}, "", 0, -1, nil, api.ErrExists}, {"b", with(func(r *api.Record) { r.Card = "" }), "", 0, -1, nil, api.ErrCard}, {"b", with(func(r *api.Record) { r.Kind = api.RcRefund }), "", 0, -1, nil, api.ErrRange}, {"b", rec("r-a"), "x", 0, -1, nil, api.ErrNone}, {"b", rec("r-a"), "fraud", 0, -1, nil, api.ErrRange}, {"b", rec("r-a"), "fraud", 1001, -1, nil, api.ErrRange}, {"b", rec("r-a"), "fraud", 401, -1, nil, api.ErrBalance},
		{"b", rec("r-a"), "fraud", 400, -1, nil, api.ErrTime}, {"b", rec("r-a"), "fraud", 400, 99, nil, api.ErrTime}, {"b", rec("r-a"), "fraud", 400, api.MaxDate + 1, nil, api.ErrTime}, {"b", rec("r-a"), "fraud", 400, 221, nil, api.ErrDeadline}, {"b", rec("r-a"), "fraud", 400, 220, nil, api.ErrEvidence}, {"b", rec("r-a"), "fraud", 400, 220, items("letter"), api.ErrEvidence}, {"b", rec("r-a"), "fraud", 400, 220, append(items("a b"), good...), api.ErrEvidence}, {"b", rec("r-a"), "fraud", 400, 220, append(slices.Repeat(items("x"), 15), good...), api.ErrEvidence},
		{"b", rec("r-a"), "fraud", 400, 100, append(slices.Repeat(items("x"), 14), good...), api.OK}, {"c", with(func(r *api.Record) { r.Id, r.Date = "late", api.MaxDate }), "fraud", 5, api.MaxDate, good, api.OK},
	} {
		if e := d.Open(c.id, c.r, c.code, c.amount, c.date, c.items); e != c.want {
			t.Error(i, e)
		}
	}
	if c, _ := d.Get("c"); c.Due != api.MaxDate {
		t.Error(c)
	}
	for n := range api.MaxCases {
		d.Open("n"+strconv.Itoa(n), rec("r"+strconv.Itoa(n)), "other", 1, 100, nil)
	}
	if e := d.Open("more", api.Record{}, "", 0, 0, nil); e != api.ErrFull {
		t.Error(e)
	}
}

func TestP46_4P46_8Step(t *testing.T) {
	d := desk(t)
	open(t, d, "a", 110)
	step := func(event, date int, l []api.Item, want api.Errno, stage, due int) {
		t.Helper()
		if e := d.Step("a", event, date, l); e != want {
			t.Error(event, date, e)
		}
		if c, _ := d.Get("a"); c.Stage != stage || c.Due != due || c.Opened != 110 {
			t.Error(c)
		}
	}
	if e := d.Step("x", 9, -1, nil); e != api.ErrNone {
		t.Error(e)
	}
	step(0, -1, nil, api.ErrRange, 1, 155)
	step(7, -1, nil, api.ErrRange, 1, 155)
	step(2, -1, nil, api.ErrState, 1, 155)
	step(1, -1, nil, api.ErrTime, 1, 155)
	step(1, 109, nil, api.ErrTime, 1, 155)
	step(1, api.MaxDate+1, nil, api.ErrTime, 1, 155)
	step(1, 156, nil, api.ErrDeadline, 1, 155)
	step(4, 156, nil, api.ErrDeadline, 1, 155)
	step(1, 155, nil, api.ErrEvidence, 1, 155)
	step(1, 155, append(items("receipt"), api.Item{Kind: "x"}), api.ErrEvidence, 1, 155)
	step(1, 155, slices.Repeat(items("receipt"), 17), api.ErrEvidence, 1, 155)
	step(1, 155, items("receipt"), api.OK, 2, 185)
	step(2, 154, nil, api.ErrTime, 2, 185)
	step(2, 155, items("a b"), api.ErrEvidence, 2, 185)
	step(2, 185, nil, api.OK, 3, 205)
	step(3, 206, nil, api.ErrDeadline, 3, 205)
	step(3, 205, nil, api.OK, 4, 0)
	step(4, 205, nil, api.ErrState, 4, 0)
	step(6, 204, nil, api.ErrTime, 4, 0)
	step(6, 99999, nil, api.OK, 6, 0)
	for event := 1; event <= 6; event++ {
		step(event, 99999, nil, api.ErrState, 6, 0)
	}
	if l := d.History("a"); !slices.Equal(l, []int{1, 2, 3, 4, 6}) || d.History("x") != nil {
		t.Error(l)
	}
	open(t, d, "b", 110)
	d.Step("b", 4, 110, nil)
	if l := d.History("b"); !slices.Equal(l, []int{1, 5}) {
		t.Error(l)
	}
}

func TestP46_5P46_9Expire(t *testing.T) {
	d := desk(t)
	open(t, d, "a", 100)
	open(t, d, "b", 100)
	open(t, d, "c", 100)
	d.Step("b", 1, 120, items("receipt"))
	for _, event := range []int{1, 2, 3} {
		d.Step("c", event, 110, items("receipt"))
	}
	expire := func(date int, want string) {
		t.Helper()
		if s := strings.Join(d.Expire(date), " "); s != want {
			t.Error(date, s)
		}
	}
	expire(-1, "")
	expire(api.MaxDate+1, "")
	expire(145, "")
	expire(146, "a")
	expire(150, "")
	expire(200, "b")
	expire(api.MaxDate, "")
	for id, want := range map[string]string{"a": "[1 5]", "b": "[1 2 6]", "c": "[1 2 3 4]"} {
		s := ""
		for _, n := range d.History(id) {
			s += " " + strconv.Itoa(n)
		}
		if "["+strings.TrimSpace(s)+"]" != want {
			t.Error(id, s)
		}
	}
	late := desk(t)
	open(t, late, "z", 100)
	late.Expire(500)
	if e := late.Step("z", 4, 499, nil); e != api.ErrState {
		t.Error(e)
	}
}

func TestP46_6P46_7P46_10Queries(t *testing.T) {
	d := desk(t)
	d.Open("b", rec("r"), "other", 300, 100, nil)
	d.Open("a", rec("r"), "other", 700, 100, nil)
	if d.Disputed("r") != 1000 || d.Disputed("x") != 0 || d.Open("c", rec("r"), "other", 1, 100, nil) != api.ErrBalance {
		t.Error(d.Disputed("r"))
	}
	d.Step("b", 1, 100, nil)
	d.Step("b", 4, 100, nil)
	d.Step("a", 4, 100, nil)
	if d.Disputed("r") != 700 || d.Open("c", rec("r"), "other", 301, 100, nil) != api.ErrBalance || d.Open("c", rec("r"), "other", 300, 100, nil) != api.OK {
		t.Error(d.Disputed("r"))
	}
	l := d.Cases()
	if len(l) != 3 || l[0].Id != "b" || l[0].Stage != api.DsLost || l[1].Stage != api.DsWon || l[2].Due != 101 {
		t.Error(l)
	}
	var none *Desk
	if _, ok := none.Get("a"); ok || none.Open("a", rec("r"), "other", 1, 100, nil) != api.ErrNone || none.Step("a", 1, 1, nil) != api.ErrNone || none.Expire(5) != nil || none.Cases() != nil || none.History("a") != nil || none.Disputed("r") != 0 {
		t.Error("nil desk")
	}
	if e := (&Desk{}).Open("a", rec("r"), "other", 1, 100, nil); e != api.ErrNone {
		t.Error(e)
	}
}
