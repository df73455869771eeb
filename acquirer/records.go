package acquirer

import (
	"slices"
	"strconv"

	"cardnet/api"
	"cardnet/calendar"
)

// network stands for the issuer in records: the network finds it by the card.
const network = "network"

// record returns a record of a sale with no more than what all records of it have.
func (h *Host) record(at int, x *entry, kind int, id string, amount int64) api.Record {
	date, _ := calendar.Day(at)
	p := x.sale.Purchase
	return api.Record{Kind: kind, Id: id, Acquirer: h.name, Issuer: network, Merchant: p.Merchant, Card: p.Card, Amount: api.Money{Amount: amount, Currency: p.Currency}, Date: date, Category: p.Category}
}

// Capture captures an amount of an approved purchase: it adds a presentment to the next file.
func (h *Host) Capture(at int, ref string, amount int64, final bool) api.Errno {
	x, ok := h.find(ref)
	if !ok {
		return api.ErrNone
	}
	if !h.permits(at) {
		return api.ErrTime
	}
	if x.sale.State != approved {
		return api.ErrState
	}
	if x.final {
		return api.ErrClosed
	}
	if x.captures >= api.MaxParts {
		return api.ErrLimit
	}
	if amount < 1 || amount > api.MaxAmount {
		return api.ErrRange
	}
	most := x.sale.Approved
	if final {
		most += x.sale.Approved / 5
	}
	if x.sale.Captured+amount > most {
		return api.ErrTolerance
	}
	h.now = at
	x.captures++
	x.final = final
	x.sale.Captured += amount
	r := h.record(at, x, api.RcPresent, ref+"-"+strconv.Itoa(x.captures), amount)
	r.Auth, r.Final = ref, final
	h.records = append(h.records, r)
	return api.OK
}

// Refund adds a refund to the next file.
func (h *Host) Refund(at int, ref string, amount int64) api.Errno {
	x, ok := h.find(ref)
	if !ok {
		return api.ErrNone
	}
	if !h.permits(at) {
		return api.ErrTime
	}
	if x.refunds >= api.MaxParts {
		return api.ErrLimit
	}
	if amount < 1 || amount > x.sale.Captured-x.sale.Refunded {
		return api.ErrRange
	}
	h.now = at
	x.refunds++
	x.sale.Refunded += amount
	h.records = append(h.records, h.record(at, x, api.RcRefund, ref+"r"+strconv.Itoa(x.refunds), amount))
	return api.OK
}

// Batch returns the next file, or ErrNone.
func (h *Host) Batch(date int) (api.Batch, api.Errno) {
	if h.missing() {
		return api.Batch{}, api.ErrNone
	}
	if date < 0 || date > api.MaxDate {
		return api.Batch{}, api.ErrTime
	}
	if len(h.records) == 0 {
		return api.Batch{}, api.ErrNone
	}
	h.files++
	n := min(len(h.records), api.MaxRecords)
	b := api.Batch{Id: "F" + strconv.Itoa(date) + "-" + strconv.Itoa(h.files), Sender: h.name, Date: date, Records: slices.Clone(h.records[:n])}
	h.records = slices.Delete(h.records, 0, n)
	for _, r := range b.Records {
		h.filed[r.Id] = r
	}
	return b, api.OK
}

// Resubmit adds a record that was rejected to the next file, with another card or authorization.
func (h *Host) Resubmit(id, card, auth string) api.Errno {
	if h.missing() {
		return api.ErrNone
	}
	r, ok := h.filed[id]
	if !ok {
		return api.ErrNone
	}
	if card != "" && !isCard(card) {
		return api.ErrCard
	}
	if auth != "" && !isIdent(auth) {
		return api.ErrName
	}
	original, ok := h.originals[id]
	if !ok {
		original = id
	}
	if h.copies[original] >= mostCopies {
		return api.ErrLimit
	}
	h.copies[original]++
	r.Id = original + "s" + strconv.Itoa(h.copies[original])
	h.originals[r.Id] = original
	if card != "" {
		r.Card = card
	}
	if auth != "" {
		r.Auth = auth
	}
	h.records = append(h.records, r)
	return api.OK
}
