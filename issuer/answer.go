package issuer

import (
	"cardnet/api"
	"cardnet/auth"
	"cardnet/calendar"
	"cardnet/fraud"
	"cardnet/message"
	"cardnet/text"
)

// The response codes.
const (
	approved      = "00"
	declined      = "05"
	partly        = "10"
	invalid       = "12"
	noCard        = "14"
	noOriginal    = "25"
	cardExpired   = "33"
	cardInactive  = "41"
	noFunds       = "51"
	aboveDaily    = "61"
	tooManyUses   = "65"
	cannotDecide  = "91"
	approvalWidth = 6
)

// answer is a response code, and the amount that the reply names as approved (0: none).
type answer struct {
	code   string
	amount int64
}

// demand is a message that is being answered, with what it says.
type demand struct {
	api.Message
	at, date    int
	ref, number string
	amount      int64
}

// get returns the value of an element, or nothing.
func (d demand) get(n int) string {
	value, _ := message.Get(d.Message, n)
	return value
}

// has returns the number of an element, and whether the message has it.
func (d demand) has(n int) (int64, bool) {
	value, e := message.Number(d.Message, n)
	return value, e == api.OK
}

// reply processes a message that was not processed before.
func (h *Host) reply(at int, m api.Message) (api.Message, api.Errno) {
	d := demand{Message: m, at: at}
	d.date, _ = calendar.Day(at)
	d.ref, d.number = d.get(37), d.get(2)
	d.amount, _ = d.has(4)
	a := h.answer(d)
	reply, e := message.Reply(m, a.code)
	if e != api.OK || a.amount == 0 {
		return reply, e
	}
	reply, e = message.With(reply, 4, text.Padded(a.amount, 12))
	if e != api.OK {
		return api.Message{}, e
	}
	return message.With(reply, 38, d.ref[len(d.ref)-approvalWidth:])
}

func (h *Host) answer(d demand) answer {
	switch d.Type {
	case api.AuthRequest:
		if raise, ok := d.has(95); ok {
			return answer{code: h.raise(d, raise)}
		}
		return h.request(d)
	case api.AuthAdvice:
		return answer{code: h.advice(d)}
	case api.ReverseRequest, api.ReverseAdvice:
		h.reverse(d.get(56))
	}
	return answer{code: approved}
}

// end returns the end of an authorization that is granted at a time.
func (h *Host) end(at int) int { return at + h.days*daySeconds }

// request answers a request for a new authorization.
func (h *Host) request(d demand) answer {
	if h.reversed[d.ref] {
		return answer{code: declined}
	}
	if p, ok := h.find(d.ref); ok {
		return answer{code: approved, amount: p.auth.Approved}
	}
	x, ok := h.holder(d.number)
	if !ok {
		return answer{code: noCard}
	}
	least, partial := d.has(54)
	if !partial {
		least = d.amount
	}
	if d.get(49) != h.currency || d.amount == 0 || least < 1 || least > d.amount || len(h.approvals) >= api.MaxAuths {
		return answer{code: invalid}
	}
	if code := h.refusal(d, x); code != "" {
		return answer{code: code}
	}
	held, e := x.account.HoldUpTo(d.ref, d.amount, least)
	if e != api.OK {
		return answer{code: holdCode(e)}
	}
	if h.grant(d, x, held) != api.OK {
		x.account.Release(d.ref, held)
		return answer{code: invalid}
	}
	if held < d.amount {
		return answer{code: partly, amount: held}
	}
	return answer{code: approved, amount: held}
}

// holdCode returns the response code for an error of a hold.
func holdCode(e api.Errno) string {
	if e == api.ErrFunds {
		return noFunds
	}
	return invalid
}

// refusal returns the code with which the card, the rules or the daily limits refuse a request; empty if they do not.
func (h *Host) refusal(d demand, x *holder) string {
	if x.card.State() != api.CardActive {
		return cardInactive
	}
	if x.card.Usable(d.date) != api.OK {
		return cardExpired
	}
	if h.engine != nil {
		verdict, _ := h.engine.Judge(d.at, fraud.Features(d.Message))
		switch verdict.Action {
		case api.Decline:
			return declined
		case api.Refer:
			return cannotDecide
		}
	}
	sum, count := x.card.Used(d.date)
	if sum+d.amount > x.daily {
		return aboveDaily
	}
	if count >= x.count {
		return tooManyUses
	}
	return ""
}

// grant adds the authorization of a message; the hold of the amount was made before.
func (h *Host) grant(d demand, x *holder, amount int64) api.Errno {
	a, e := auth.New(d.ref, h.currency, amount, d.at, h.end(d.at))
	if e != api.OK {
		return e
	}
	h.places[d.ref] = len(h.approvals)
	h.approvals = append(h.approvals, approval{auth: a, number: d.number})
	x.card.Use(d.date, amount)
	if h.engine != nil {
		h.engine.Record(d.at, fraud.Features(d.Message), amount)
	}
	return api.OK
}

// raise answers a request to raise an authorization.
func (h *Host) raise(d demand, amount int64) string {
	if h.reversed[d.ref] {
		return declined
	}
	p, ok := h.find(d.get(56))
	if !ok || p.auth.State != api.AuthOpen || p.number != d.number {
		return noOriginal
	}
	raised, e := auth.Raise(p.auth, amount, max(p.auth.Until, h.end(d.at)))
	if d.get(49) != h.currency || e != api.OK {
		return invalid
	}
	if e := h.holders[p.number].account.Raise(p.auth.Id, amount); e != api.OK {
		return holdCode(e)
	}
	p.auth = raised
	return approved
}

// advice answers an advice: what was approved in the place of the host.
func (h *Host) advice(d demand) string {
	if d.get(39) != approved || h.reversed[d.ref] {
		return approved
	}
	x, ok := h.holder(d.number)
	if !ok {
		return noCard
	}
	if d.get(49) != h.currency || d.amount == 0 {
		return invalid
	}
	if p, ok := h.find(d.ref); ok {
		raiseTo(p, x, d)
		return approved
	}
	if len(h.approvals) >= api.MaxAuths || x.account.Force(d.ref, d.amount) != api.OK {
		return invalid
	}
	if h.grant(d, x, d.amount) != api.OK {
		x.account.Release(d.ref, d.amount)
		return invalid
	}
	return approved
}

// raiseTo raises an authorization to the amount of an advice about it, if that is possible.
func raiseTo(p *approval, x *holder, d demand) {
	if p.number != d.number || p.auth.Approved >= d.amount {
		return
	}
	more := d.amount - p.auth.Approved
	raised, e := auth.Raise(p.auth, more, p.auth.Until)
	if e != api.OK || x.account.Force(p.auth.Id, more) != api.OK {
		return
	}
	p.auth = raised
}

// reverse takes back what is open of a reference, and refuses it from now on.
func (h *Host) reverse(ref string) {
	h.reversed[ref] = true
	p, ok := h.find(ref)
	if !ok {
		return
	}
	reversed, released, e := auth.Reverse(p.auth, 0)
	if e != api.OK {
		return
	}
	x := h.holders[p.number]
	x.account.Release(ref, released)
	date, _ := calendar.Day(p.auth.At)
	x.card.Undo(date, released)
	p.auth = reversed
}
