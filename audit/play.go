package audit

import (
	"strconv"
	"strings"

	"cardnet/acquirer"
	"cardnet/api"
	"cardnet/paynet"
)

// The kinds of steps.
const (
	purchase = 1 + iota
	cancel
	capture
	refund
	wait
	clearing
	settle
	open
	advance
)

const (
	cardsOfBank = 8
	terminal    = "t1"
	category    = 5411
	mostSeconds = 100 * 86400
)

// Step is a step of a script: kinds 1 purchase, 2 cancel, 3 capture, 4 refund, 5 advance, 6 clear, 7 settle, 8 dispute, 9 step.
type Step struct {
	Kind, A, B int
	Amount     int64
	Text       string
	Final      bool
}

// Play plays a step on a network, and returns its error.
func Play(n *paynet.Net, s Step) api.Errno {
	if n == nil {
		return api.ErrNone
	}
	e := api.OK
	switch s.Kind {
	case purchase:
		e = buy(n, s)
	case cancel, capture, refund, open:
		e = playSale(n, s)
	case wait:
		if s.A < 0 || s.A > mostSeconds {
			return api.ErrTime
		}
		e = n.Advance(n.Now() + s.A)
	case clearing:
		_, e = n.Clear()
	case settle:
		_, e = n.Settle(s.A)
	case advance:
		e = n.Step(caseId(s), s.B, items(words(s.Text)))
	default:
		e = api.ErrRange
	}
	return e
}

func caseId(s Step) string { return "case-" + strconv.Itoa(s.A) }

// words returns the words of a text.
func words(s string) []string {
	if s == "" {
		return nil
	}
	return strings.Split(s, " ")
}

// items returns an item of evidence for each word.
func items(l []string) []api.Item {
	var all []api.Item
	for _, word := range l {
		all = append(all, api.Item{Kind: word, Size: 1, Hash: 1})
	}
	return all
}

func buy(n *paynet.Net, s Step) api.Errno {
	if s.B < 0 {
		return api.ErrNone
	}
	card, ok := n.Card(s.B/cardsOfBank, s.B%cardsOfBank)
	if !ok {
		return api.ErrNone
	}
	p := acquirer.Purchase{Merchant: s.Text, Terminal: terminal, Card: card, Amount: s.Amount, Currency: n.Currency(), Category: category}
	if s.Final {
		p.Least = 1
	}
	_, e := n.Purchase(s.A, p)
	return e
}

// playSale plays a step that is about a sale.
func playSale(n *paynet.Net, s Step) api.Errno {
	sales := n.Sales()
	if s.A < 0 || s.A >= len(sales) {
		return api.ErrNone
	}
	sale := sales[s.A]
	switch s.Kind {
	case cancel:
		return n.Cancel(sale.Ref)
	case capture:
		amount := s.Amount
		if amount == 0 {
			amount = sale.Approved
		}
		return n.Capture(sale.Ref, amount, s.Final)
	case refund:
		return n.Refund(sale.Ref, s.Amount)
	}
	reason, evidence := "", words(s.Text)
	if len(evidence) > 0 {
		reason, evidence = evidence[0], evidence[1:]
	}
	return n.Dispute(caseId(s), sale.Ref+"-1", reason, s.Amount, items(evidence))
}
