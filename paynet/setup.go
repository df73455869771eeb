package paynet

import (
	"slices"

	"cardnet/acquirer"
	"cardnet/api"
	"cardnet/assess"
	"cardnet/authswitch"
	"cardnet/binrange"
	"cardnet/calendar"
	"cardnet/clone"
	"cardnet/cycle"
	"cardnet/dispute"
	"cardnet/intake"
	"cardnet/issuer"
	"cardnet/ledger"
	"cardnet/link"
	"cardnet/matching"
	"cardnet/pan"
	"cardnet/standin"
	"cardnet/text"
	"cardnet/token"
)

const (
	mostParties = 4 // banks, and acquirers
	mostCards   = 8
	cardLength  = 16
	cardUses    = 1000
	product     = "card"
	tokenPrefix = "9"
)

// New returns a network at the time 0.
func New(s Setup) (*Net, api.Errno) {
	if e := check(s); e != api.OK {
		return nil, e
	}
	n := &Net{currency: s.Currency, ranges: rangesOf(s), tolerance: s.Tolerance, booked: map[string]api.Record{}, movements: map[string]int{}, shops: map[string]int64{}, states: map[string]int{}}
	n.tables = assess.Tables{Interchange: clone.FeeRules(s.Tables.Interchange), Scheme: clone.FeeRules(s.Tables.Scheme), Merchant: clone.FeeRules(s.Tables.Merchant)}
	// The switch has no name: nobody sends to it by one.
	n.names = append([]string{""}, names(s)...)
	for _, step := range []func(Setup) api.Errno{n.makeBooks, n.makeWires, n.makeAcquirers, n.makeBanks} {
		if e := step(s); e != api.OK {
			return nil, e
		}
	}
	return n, api.OK
}

// names returns the names of the banks and the acquirers.
func names(s Setup) []string {
	var l []string
	for _, b := range s.Banks {
		l = append(l, b.Name)
	}
	return append(l, s.Acquirers...)
}

func check(s Setup) api.Errno {
	if len(s.Banks) < 1 || len(s.Banks) > mostParties || len(s.Acquirers) < 1 || len(s.Acquirers) > mostParties {
		return api.ErrRange
	}
	all := names(s)
	for i, name := range all {
		if !text.Name(name, api.MaxName) || name == network {
			return api.ErrName
		}
		if slices.Contains(all[:i], name) {
			return api.ErrExists
		}
	}
	if !text.Currency(s.Currency) {
		return api.ErrCurrency
	}
	for _, b := range s.Banks {
		if b.Cards < 1 || b.Cards > mostCards || b.Balance < 0 || b.Balance > api.MaxAmount {
			return api.ErrRange
		}
	}
	if e := assess.Check(s.Tables); e != api.OK {
		return e
	}
	_, e := matching.Allowed(1, s.Tolerance)
	return e
}

func rangesOf(s Setup) []api.Range {
	var l []api.Range
	for _, b := range s.Banks {
		l = append(l, api.Range{Low: b.Low, High: b.High, Issuer: b.Name, Product: product})
	}
	return l
}

// makeBooks makes what keeps account of cases, cycles, files and money.
func (n *Net) makeBooks(s Setup) api.Errno {
	desk, e := dispute.New(s.Reasons)
	if e != api.OK {
		return e
	}
	c, e := calendar.New(s.Holidays)
	if e != api.OK {
		return e
	}
	cycles, e := cycle.New(c, s.Cutoff, append(names(s), network))
	if e != api.OK {
		return e
	}
	in, e := intake.New(s.Acquirers)
	if e != api.OK {
		return e
	}
	l, e := ledger.New(accounts(s))
	if e != api.OK {
		return e
	}
	n.desk, n.cycles, n.intake, n.ledger = desk, cycles, in, l
	return api.OK
}

// accounts returns the accounts of the ledger.
func accounts(s Setup) []string {
	l := []string{network}
	for _, b := range s.Banks {
		l = append(l, holderAccount+b.Name, bankAccount+b.Name)
	}
	for _, a := range s.Acquirers {
		l = append(l, acquirerAccount+a, shopsAccount+a)
	}
	return l
}

// makeWires makes the link and the switch.
func (n *Net) makeWires(s Setup) api.Errno {
	l, e := link.New(len(n.names), s.Latency, s.Faults)
	if e != api.OK {
		return e
	}
	var limits []standin.Limit
	for _, b := range s.Banks {
		limits = append(limits, standin.Limit{Issuer: b.Name, Each: b.Each, Day: b.Day, Count: b.Count})
	}
	// Half of the timeout of the acquirers, rounded up.
	sw, e := authswitch.New(n.ranges, nil, limits, s.Timeout/2+s.Timeout%2, s.Retry)
	if e != api.OK {
		return e
	}
	v, e := token.New(tokenPrefix, cardLength)
	if e != api.OK {
		return e
	}
	sw.Vault(v)
	n.link, n.sw, n.vault = l, sw, v
	return api.OK
}

func (n *Net) makeAcquirers(s Setup) api.Errno {
	for k, name := range s.Acquirers {
		h, e := acquirer.New(name, k, s.Timeout, s.Retry)
		if e != api.OK {
			return e
		}
		n.acquirers = append(n.acquirers, h)
	}
	return api.OK
}

func (n *Net) makeBanks(s Setup) api.Errno {
	for i, b := range s.Banks {
		h, e := issuer.New(b.Name, s.Currency, s.Days)
		if e != api.OK {
			return e
		}
		made := &bank{name: b.Name, host: h}
		for k := range b.Cards {
			number, e := pan.Make(b.Low, k, cardLength)
			if e != api.OK {
				return e
			}
			if r, ok := binrange.Find(n.ranges, number); !ok || r != n.ranges[i] {
				return api.ErrRoute
			}
			if e := h.Issue(number, api.MaxDate, b.Balance, b.Limit, b.Daily, cardUses); e != api.OK {
				return e
			}
			made.cards = append(made.cards, number)
		}
		n.banks = append(n.banks, made)
	}
	return api.OK
}
