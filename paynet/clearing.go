package paynet

import (
	"strings"

	"cardnet/acquirer"
	"cardnet/api"
	"cardnet/assess"
	"cardnet/batch"
	"cardnet/binrange"
	"cardnet/matching"
	"cardnet/record"
)

// The beginnings of the accounts of the ledger; the network has an account with its own name.
const (
	holderAccount   = "holder:"
	bankAccount     = "bank:"
	acquirerAccount = "acq:"
	shopsAccount    = "shops:"
)

// withoutFees returns the result of a record that causes no fees.
func withoutFees(r api.Record) assess.Result {
	return assess.Result{Cardholder: -record.Debit(r), Acquirer: record.Debit(r)}
}

// book books a record that was posted.
func (n *Net) book(r api.Record, x assess.Result) {
	postings := []api.Posting{
		{Account: holderAccount + r.Issuer, Amount: n.money(x.Cardholder)},
		{Account: bankAccount + r.Issuer, Amount: n.money(x.Issuer)},
		{Account: acquirerAccount + r.Acquirer, Amount: n.money(x.Acquirer)},
		{Account: shopsAccount + r.Acquirer, Amount: n.money(x.Shop)},
		{Account: network, Amount: n.money(x.Network)},
	}
	if n.ledger.Post(api.Entry{Id: r.Id, Date: n.date(), Postings: postings}) == api.OK {
		n.entries++
	}
	n.owe(r.Issuer, r.Acquirer, x.Acquirer+x.Shop+x.Network)
	n.owe(r.Acquirer, network, x.Network)
	n.shops[r.Merchant] += x.Shop
	n.note(api.EvPosted, r.Issuer, r.Id, -x.Cardholder)
	if x.Shop != 0 {
		n.note(api.EvCredited, r.Merchant, r.Id, x.Shop)
	}
}

// owe lets a party owe another one an amount; a negative amount is owed in the other direction.
func (n *Net) owe(from, to string, amount int64) {
	if amount < 0 {
		from, to, amount = to, from, -amount
	}
	n.cycles.Move(n.now, from, to, n.money(amount))
}

// Clear collects, validates and posts the files of all acquirers.
func (n *Net) Clear() ([]api.Reject, api.Errno) {
	if n.missing() {
		return nil, api.ErrNone
	}
	var all []api.Reject
	for k, h := range n.acquirers {
		rejects, e := n.clear(k, h)
		if e != api.OK {
			return all, e
		}
		all = append(all, rejects...)
	}
	return all, api.OK
}

// clear processes the next file of an acquirer, if it has one.
func (n *Net) clear(k int, h *acquirer.Host) ([]api.Reject, api.Errno) {
	b, e := h.Batch(n.date())
	if e != api.OK {
		return nil, api.OK
	}
	s, e := batch.Encode(b)
	if e != api.OK {
		return nil, e
	}
	records, rejects, e := n.intake.Accept(n.date(), s)
	if e != api.OK {
		return nil, e
	}
	for _, r := range rejects {
		n.note(api.EvRejected, n.acquirerName(k), r.Id, 0)
	}
	for i, r := range records {
		if e := n.process(r); e != api.OK {
			rejects = append(rejects, api.Reject{Index: i, Id: r.Id, Code: e})
			n.note(api.EvRejected, n.acquirerName(k), r.Id, 0)
		}
	}
	return rejects, api.OK
}

// process posts and books a record that the intake has accepted.
func (n *Net) process(r api.Record) api.Errno {
	if _, ok := n.ledger.Entry(r.Id); ok || n.isMovement(r.Id) {
		return api.ErrDuplicate
	}
	if n.entries >= mostEntries {
		return api.ErrFull
	}
	if t, ok := n.vault.Get(r.Card); ok {
		r.Card = t.Pan
	}
	x, ok := binrange.Find(n.ranges, r.Card)
	if !ok {
		return api.ErrCard
	}
	r.Issuer = x.Issuer
	b, ok := n.bankNamed(r.Issuer)
	if !ok {
		return api.ErrCard
	}
	if r.Kind == api.RcPresent {
		if _, e := matching.Match(b.host.Auths(), r, n.tolerance); e != api.OK {
			return e
		}
	}
	result, e := assess.Assess(n.tables, r)
	if e != api.OK {
		return e
	}
	if e := b.post(n.now, r); e != api.OK {
		return e
	}
	if r.Kind == api.RcPresent {
		n.booked[r.Id] = r
	}
	n.book(r, result)
	return api.OK
}

// isMovement reports whether an identification is reserved for a movement of a case.
func (n *Net) isMovement(id string) bool {
	for _, suffix := range movementSuffixes() {
		if base, found := strings.CutSuffix(id, suffix); found {
			if _, ok := n.desk.Get(base); ok {
				return true
			}
		}
	}
	return false
}

// movementSuffixes returns what follows the identification of a case in those of its movements.
func movementSuffixes() []string { return []string{"-1", "-2", "-3"} }

// Settle closes a cycle, and returns its transfers.
func (n *Net) Settle(date int) ([]api.Transfer, api.Errno) {
	if n.missing() {
		return nil, api.ErrNone
	}
	if date > n.date()+ahead {
		return nil, api.ErrTime
	}
	if _, e := n.cycles.Close(date); e != api.OK {
		return nil, e
	}
	l, e := n.cycles.Settle(date, nil, n.currency, n.currency)
	if e != api.OK {
		return nil, e
	}
	for _, t := range l {
		n.note(api.EvSettled, t.From, t.To, t.Amount.Amount)
	}
	return l, api.OK
}

// Dispute opens a case about a presentment that was posted.
func (n *Net) Dispute(id, record, reason string, amount int64, items []api.Item) api.Errno {
	if n.missing() {
		return api.ErrNone
	}
	r, ok := n.booked[record]
	if !ok {
		return api.ErrNone
	}
	if len(id) > api.MaxName-2 {
		return api.ErrName
	}
	if n.entries >= mostEntries {
		return api.ErrFull
	}
	for _, suffix := range movementSuffixes() {
		if _, ok := n.ledger.Entry(id + suffix); ok {
			return api.ErrDuplicate
		}
	}
	if e := n.desk.Open(id, r, reason, amount, n.date(), items); e != api.OK {
		return e
	}
	n.moveOn(id, 0)
	return api.OK
}

// Step performs an event of a case.
func (n *Net) Step(id string, event int, items []api.Item) api.Errno {
	if n.missing() {
		return api.ErrNone
	}
	if n.entries >= mostEntries {
		return api.ErrFull
	}
	before, _ := n.desk.Get(id)
	if e := n.desk.Step(id, event, n.date(), items); e != api.OK {
		return e
	}
	n.moveOn(id, before.Stage)
	return api.OK
}
