package console

import (
	"slices"
	"strconv"

	"cardnet/acquirer"
	"cardnet/api"
	"cardnet/audit"
	"cardnet/money"
)

// The kinds of the steps of audit.
const (
	stepBuy = 1 + iota
	stepCancel
	stepCapture
	stepRefund
	stepWait
)

const cardsOfBank = 8 // in the number by which a step names a card

func digits(n int64) string { return strconv.FormatInt(n, 10) }

// operate executes a command on the network.
func (c *Console) operate(x command) output {
	switch x.name {
	case "buy":
		return c.buy(x)
	case "cancel":
		return result("ok", audit.Play(c.net, audit.Step{Kind: stepCancel, A: x.number(0)}))
	case "capture":
		return result("ok", audit.Play(c.net, audit.Step{Kind: stepCapture, A: x.number(0), Amount: x.numbers[1], Final: true}))
	case "refund":
		return result("ok", audit.Play(c.net, audit.Step{Kind: stepRefund, A: x.number(0), Amount: x.numbers[1]}))
	case "wait":
		e := audit.Play(c.net, audit.Step{Kind: stepWait, A: x.number(0)})
		return result("ok "+strconv.Itoa(c.net.Now()), e)
	case "clear":
		return c.clear()
	case "settle":
		return c.settle(x.number(0))
	case "sale":
		return c.sale(x.number(0))
	case "holder":
		return c.holder(x.number(0), x.number(1))
	case "shop":
		return lines(digits(c.net.Shop(x.words[0])))
	case "balance":
		return lines(digits(c.net.Balance(x.words[0])))
	case "total":
		return lines(digits(c.net.Total()))
	case "quiet":
		if c.net.Quiet() {
			return lines("yes")
		}
		return lines("no")
	}
	return c.audit()
}

// buy begins a purchase, and finds its sale: the one that was not there before.
func (c *Console) buy(x command) output {
	bank, card := x.number(1), x.number(2)
	if _, ok := c.net.Card(bank, card); !ok {
		return failed(api.ErrNone)
	}
	before := c.net.Sales()
	e := audit.Play(c.net, audit.Step{Kind: stepBuy, A: x.number(0), B: bank*cardsOfBank + card, Amount: x.numbers[3], Text: x.words[4]})
	if e != api.OK {
		return failed(e)
	}
	after := c.net.Sales()
	i := slices.IndexFunc(after, func(s acquirer.Sale) bool {
		return !slices.ContainsFunc(before, func(old acquirer.Sale) bool { return old.Ref == s.Ref })
	})
	if i < 0 {
		return failed(api.ErrNone)
	}
	return lines(strconv.Itoa(i) + " " + after[i].Ref)
}

func (c *Console) clear() output {
	rejects, e := c.net.Clear()
	if e != api.OK {
		return failed(e)
	}
	o := output{}
	for _, r := range rejects {
		o.lines = append(o.lines, "reject "+r.Id+" "+strconv.Itoa(int(r.Code)))
	}
	o.lines = append(o.lines, "ok "+strconv.Itoa(len(rejects)))
	return o
}

func (c *Console) settle(date int) output {
	transfers, e := c.net.Settle(date)
	if e != api.OK {
		return failed(e)
	}
	o := output{}
	for _, t := range transfers {
		o.lines = append(o.lines, t.From+" "+t.To+" "+money.Format(t.Amount))
	}
	o.lines = append(o.lines, "ok "+strconv.Itoa(len(transfers)))
	return o
}

func (c *Console) sale(i int) output {
	sales := c.net.Sales()
	if i < 0 || i >= len(sales) {
		return failed(api.ErrNone)
	}
	s := sales[i]
	return lines(stateName(s.State) + " " + digits(s.Approved) + " " + digits(s.Captured) + " " + digits(s.Refunded))
}

// stateName returns the word for the state of a sale.
func stateName(state int) string {
	switch state {
	case 1:
		return "waiting"
	case 2:
		return "approved"
	case 3:
		return "declined"
	}
	return "reversed"
}

func (c *Console) holder(bank, card int) output {
	number, ok := c.net.Card(bank, card)
	if !ok {
		return failed(api.ErrNone)
	}
	balance, held, _ := c.net.Holder(number)
	return lines(digits(balance) + " " + digits(held))
}

func (c *Console) audit() output {
	log := c.net.Log()
	findings := append(audit.Charges(log), audit.Credits(log)...)
	findings = append(findings, audit.Auths(c.net.Auths(), c.net.Now())...)
	if len(findings) == 0 {
		return lines("clean")
	}
	o := output{}
	for _, f := range findings {
		o.lines = append(o.lines, audit.Name(f.Kind)+" "+f.Ref+" "+digits(f.Amount))
	}
	return o
}
