package paynet

import (
	"slices"

	"cardnet/acquirer"
	"cardnet/api"
)

// Card returns the number of a card of a bank.
func (n *Net) Card(bank, card int) (string, bool) {
	if n.missing() || bank < 0 || bank >= len(n.banks) || card < 0 || card >= len(n.banks[bank].cards) {
		return "", false
	}
	return n.banks[bank].cards[card], true
}

// Now returns the present time.
func (n *Net) Now() int {
	if n == nil {
		return 0
	}
	return n.now
}

// Currency returns the currency of the network.
func (n *Net) Currency() string {
	if n == nil {
		return ""
	}
	return n.currency
}

// Sales returns the purchases of all acquirers.
func (n *Net) Sales() []acquirer.Sale {
	if n == nil {
		return nil
	}
	var l []acquirer.Sale
	for _, h := range n.acquirers {
		l = append(l, h.Sales()...)
	}
	return l
}

// Sale returns a purchase.
func (n *Net) Sale(ref string) (acquirer.Sale, bool) {
	k, ok := n.acquirerOf(ref)
	if !ok {
		return acquirer.Sale{}, false
	}
	return n.acquirers[k].Sale(ref)
}

// Holder returns the balance and the holds of a card.
func (n *Net) Holder(card string) (balance, held int64, ok bool) {
	b, ok := n.bankOf(card)
	if !ok {
		return 0, 0, false
	}
	return b.host.Account(card)
}

// Shop returns what a merchant was credited.
func (n *Net) Shop(merchant string) int64 {
	if n == nil {
		return 0
	}
	return n.shops[merchant]
}

// Balance returns the balance of an account of the ledger.
func (n *Net) Balance(account string) int64 {
	if n == nil {
		return 0
	}
	return n.ledger.Balance(account, n.currency)
}

// Total returns the money of all cardholders, merchants, banks, acquirers and the network together.
func (n *Net) Total() int64 {
	if n.missing() {
		return 0
	}
	sum := n.Balance(network)
	for _, b := range n.banks {
		sum += n.Balance(bankAccount + b.name)
		for _, card := range b.cards {
			balance, _, _ := b.host.Account(card)
			sum += balance
		}
	}
	for k := range n.acquirers {
		sum += n.Balance(acquirerAccount+n.acquirerName(k)) + n.Balance(shopsAccount+n.acquirerName(k))
	}
	return sum
}

// Auth returns the authorization of a purchase at the issuer of its card.
func (n *Net) Auth(ref string) (api.Auth, bool) {
	if n == nil {
		return api.Auth{}, false
	}
	for _, b := range n.banks {
		if a, ok := b.host.Auth(ref); ok {
			return a, true
		}
	}
	return api.Auth{}, false
}

// Auths returns all authorizations of all issuers.
func (n *Net) Auths() []api.Auth {
	if n == nil {
		return nil
	}
	var l []api.Auth
	for _, b := range n.banks {
		l = append(l, b.host.Auths()...)
	}
	return l
}

// Positions returns the positions of a cycle.
func (n *Net) Positions(date int) []api.Position {
	if n == nil {
		return nil
	}
	return n.cycles.Positions(date)
}

// Quiet reports whether no message is under way or waits to be repeated.
func (n *Net) Quiet() bool { return !n.missing() && n.quiet() }

// Log returns all events.
func (n *Net) Log() []api.Event {
	if n == nil {
		return nil
	}
	return slices.Clone(n.log)
}
