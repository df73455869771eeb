package audit

import (
	"slices"
	"testing"

	"cardnet/api"
	"cardnet/assess"
	"cardnet/matching"
	"cardnet/paynet"
)

func ev(kind int, ref string, amount int64) api.Event {
	return api.Event{Kind: kind, Ref: ref, Amount: api.Money{Amount: amount, Currency: "EUR"}}
}

func posted(ref string, amount int64) api.Event   { return ev(api.EvPosted, ref, amount) }
func credited(ref string, amount int64) api.Event { return ev(api.EvCredited, ref, amount) }

func TestP52_1P52_2P52_9Events(t *testing.T) {
	usd := credited("a", 5)
	usd.Amount.Currency = "USD"
	for i, c := range []struct {
		l                []api.Event
		charges, credits []Finding
	}{
		{nil, nil, nil}, {[]api.Event{posted("a", 100), credited("a", 100), ev(api.EvApproved, "a", 1), ev(api.EvApproved, "a", 1)}, nil, nil}, {[]api.Event{posted("a", 100), posted("b", 1), posted("a", 90), posted("a", 80)}, []Finding{{1, "a", 90}, {1, "a", 80}}, nil}, {[]api.Event{posted("a", 100), credited("a", 101)}, nil, []Finding{{2, "a", 101}}}, {[]api.Event{credited("a", 1), posted("a", 100)}, nil, []Finding{{2, "a", 1}}},
		{[]api.Event{posted("a", 100), credited("a", 5), credited("a", 6)}, nil, []Finding{{3, "a", 6}}}, {[]api.Event{posted("a", 100), credited("a", 5), credited("a", 101)}, nil, []Finding{{3, "a", 101}, {2, "a", 101}}}, {[]api.Event{posted("a", 100), posted("a", 200), credited("a", 150)}, []Finding{{1, "a", 200}}, []Finding{{2, "a", 150}}}, {[]api.Event{posted("a", -100), credited("a", -100)}, nil, nil}, {[]api.Event{posted("a", -100), credited("a", -101)}, nil, []Finding{{2, "a", -101}}}, {[]api.Event{posted("a", -100), credited("a", 5)}, nil, nil}, {[]api.Event{posted("a", 100), credited("a", -500)}, nil, nil}, {[]api.Event{posted("a", 100), usd}, nil, []Finding{{2, "a", 5}}},
	} {
		if a, b := Charges(c.l), Credits(c.l); !slices.Equal(a, c.charges) || !slices.Equal(b, c.credits) {
			t.Error(i, a, b)
		}
	}
	l := []api.Event{posted("a", 100), credited("a", 99), posted("b", -5), credited("b", -4)}
	for i, e := range l {
		doubled := append(slices.Clone(l), e)
		if len(Charges(doubled))+len(Credits(doubled)) == 0 {
			t.Error(i)
		}
	}
}

func TestP52_3P52_4Auths(t *testing.T) {
	open := api.Auth{Id: "a", Currency: "EUR", Approved: 700, Reversed: 200, State: api.AuthOpen, At: 50, Until: 90}
	ended := open
	ended.Reversed, ended.State = 700, api.AuthReversed
	bad := open
	bad.State = 0
	l := []api.Auth{open, ended, bad}
	if f := Auths(l, 89); !slices.Equal(f, []Finding{{4, "a", 0}}) {
		t.Error(f)
	}
	if f := Auths(l, 90); !slices.Equal(f, []Finding{{5, "a", 500}, {4, "a", 0}}) {
		t.Error(f)
	}
	pos := func(n int64, currency string) api.Position {
		return api.Position{Net: api.Money{Amount: n, Currency: currency}}
	}
	if f := Zero([]api.Position{pos(5, "EUR"), pos(-4, "EUR"), pos(7, "USD"), pos(-7, "USD"), pos(-9, "AUD")}); !slices.Equal(f, []Finding{{6, "AUD", -9}, {6, "EUR", 1}}) || Zero(nil) != nil {
		t.Error(f)
	}
	many := slices.Repeat([]api.Position{pos(api.MaxTotal, "EUR")}, 1000)
	if f := Zero(many); !slices.Equal(f, []Finding{{6, "EUR", 1000 * api.MaxTotal}}) {
		t.Error(f)
	}
}

func setup(faults ...api.Fault) paynet.Setup {
	one := api.Expr{Op: api.XNumber, N: 1}
	rules := []api.FeeRule{{Name: "all", When: api.Expr{Op: api.XEq, Args: []api.Expr{one, one}}, Bps: 100}}
	return paynet.Setup{
		Banks:     []paynet.Bank{{Name: "home", Low: "400000", High: "400999", Cards: 2, Balance: 10000, Daily: 100000, Each: 1000, Day: 5000, Count: 5}, {Name: "far", Low: "51", High: "51", Cards: 1, Balance: 500, Daily: 900, Each: 100, Day: 100, Count: 9}},
		Acquirers: []string{"shop", "store"}, Currency: "EUR", Latency: 1, Timeout: 60, Retry: 30, Days: 7, Cutoff: 64800,
		Tables: assess.Tables{Interchange: rules, Scheme: rules, Merchant: rules}, Tolerance: matching.Tolerance{Bps: 1500},
		Reasons: []api.Reason{{Code: "fraud", FileDays: 120, RepresentDays: 45, PrearbDays: 30, AnswerDays: 30, Claim: []string{"letter"}, Defence: []string{"receipt"}}},
		Faults:  faults,
	}
}

func TestP52_6Play(t *testing.T) {
	n, e := paynet.New(setup())
	if e != api.OK {
		t.Fatal(e)
	}
	for i, c := range []struct {
		s    Step
		want api.Errno
	}{
		{Step{}, api.ErrRange}, {Step{Kind: 10}, api.ErrRange}, {Step{Kind: -1}, api.ErrRange}, {Step{Kind: 1, B: -1}, api.ErrNone}, {Step{Kind: 1, B: 2}, api.ErrNone}, {Step{Kind: 1, B: 16}, api.ErrNone}, {Step{Kind: 1, A: 2, Amount: 5, Text: "m"}, api.ErrNone}, {Step{Kind: 1, Amount: 5}, api.ErrName}, {Step{Kind: 1, Text: "m"}, api.ErrRange}, {Step{Kind: 1, Amount: 600, Text: "m"}, api.OK}, {Step{Kind: 1, B: 8, Amount: 600, Text: "m", Final: true}, api.OK}, {Step{Kind: 1, B: 8, Amount: 600, Text: "m"}, api.OK},
		{Step{Kind: 2, A: 3}, api.ErrNone}, {Step{Kind: 2, A: -1}, api.ErrNone}, {Step{Kind: 3, A: 3}, api.ErrNone}, {Step{Kind: 4, A: 3}, api.ErrNone}, {Step{Kind: 8, A: 3}, api.ErrNone}, {Step{Kind: 2}, api.ErrState}, {Step{Kind: 5, A: -1}, api.ErrTime}, {Step{Kind: 5, A: 100*86400 + 1}, api.ErrTime}, {Step{Kind: 5, A: 10}, api.OK}, {Step{Kind: 3, Amount: 100}, api.OK}, {Step{Kind: 3, A: 1, Final: true}, api.OK}, {Step{Kind: 4, Amount: 101}, api.ErrRange}, {Step{Kind: 4, Amount: 40}, api.OK}, {Step{Kind: 2, A: 2}, api.ErrState}, {Step{Kind: 6}, api.OK}, {Step{Kind: 7, A: 11}, api.ErrTime}, {Step{Kind: 7, A: 0}, api.OK},
		{Step{Kind: 8}, api.ErrNone}, {Step{Kind: 8, Amount: 60, Text: "fraud"}, api.ErrEvidence}, {Step{Kind: 8, Amount: 60, Text: "fraud letter "}, api.ErrEvidence}, {Step{Kind: 8, Amount: 60, Text: "fraud x letter"}, api.OK}, {Step{Kind: 9, A: 1}, api.ErrNone}, {Step{Kind: 9, B: 1}, api.ErrEvidence}, {Step{Kind: 9, B: 1, Text: "receipt"}, api.OK}, {Step{Kind: 9, B: 4}, api.OK}, {Step{Kind: 9, B: 7}, api.ErrRange}, {Step{Kind: 5, A: 100 * 86400}, api.OK},
	} {
		if e := Play(n, c.s); e != c.want {
			t.Error(i, e)
		}
	}
	sales := n.Sales()
	if sales[0].Captured != 100 || sales[0].Refunded != 40 || sales[1].Approved != 500 || sales[1].Captured != 500 || sales[2].State != 3 || sales[1].Purchase.Terminal != "t1" || sales[1].Purchase.Category != 5411 || sales[1].Purchase.Least != 1 || sales[0].Purchase.Least != 0 {
		t.Error(sales)
	}
	if Play(nil, Step{}) != api.ErrNone {
		t.Error("nil network")
	}
}

func TestP52_5P52_8Run(t *testing.T) {
	if f, e := Run(paynet.Setup{}, nil); f != nil || e != api.ErrRange {
		t.Error(f, e)
	}
	seed := uint64(11)
	next := func(n int) int {
		seed = seed*6364136223846793005 + 1442695040888963407
		return int(seed>>33) % n
	}
	for range 40 {
		var faults []api.Fault
		for range 6 {
			f := api.Fault{Kind: 1 + next(4), A: next(5), From: next(3000)}
			f.B = (f.A + 1 + next(4)) % 5
			f.Until = f.From + next(600)
			if f.Kind == api.FDelay || f.Kind == api.FRepeat {
				f.Extra = next(90)
			}
			faults = append(faults, f)
		}
		var steps []Step
		for range 150 {
			s := Step{Kind: 1 + next(9), A: next(6), B: next(10), Amount: int64(next(700)), Text: []string{"m1", "fraud letter", "receipt", "letter"}[next(4)], Final: next(2) == 0}
			if s.Kind == 5 {
				s.A = next(200) * (1 + next(2000)*next(2)*next(2))
			}
			steps = append(steps, s)
			if next(3) == 0 {
				steps = append(steps, Step{Kind: 1, A: next(2), B: 8 * next(2), Amount: int64(1 + next(400)), Text: "m1", Final: next(2) == 0}, Step{Kind: 5, A: next(40)})
			}
		}
		for _, wait := range []int{0, 3 * 86400} {
			if f, e := Run(setup(faults...), append(slices.Clone(steps), Step{Kind: 5, A: wait})); f != nil || e != api.OK {
				t.Error(f, e)
			}
		}
	}
}

func TestP52_5Findings(t *testing.T) {
	n, _ := paynet.New(setup())
	Play(n, Step{Kind: 1, Amount: 600, Text: "m"})
	Play(n, Step{Kind: 5, A: 10})
	x := inspection{net: n, total: n.Total() - 5}
	if f := x.money(); !slices.Equal(f, []Finding{{7, "", 5}}) || x.agreement() != nil || x.auths() != nil || x.cycles() != nil || x.events() != nil {
		t.Error(f)
	}
}

func TestP52_7Name(t *testing.T) {
	for i, want := range []string{"", "twice", "credit", "recredit", "broken", "overdue", "unbalanced", "money", "disagree", ""} {
		if Name(i) != want {
			t.Error(i, Name(i))
		}
	}
	if Name(-1) != "" {
		t.Error(Name(-1))
	}
}
