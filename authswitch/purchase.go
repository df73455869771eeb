package authswitch

import (
	"slices"
	"strconv"
	"strings"

	"cardnet/api"
	"cardnet/clone"
	"cardnet/message"
	"cardnet/route"
)

// The response codes of the switch.
const (
	approved     = "00"
	partly       = "10"
	refused      = "05"
	unknownCard  = "14"
	noIssuer     = "91"
	approvalSize = 6
)

// Who decides.
const (
	byIssuer = 1 + iota
	byBackup
	byStandIn
	bySwitch
)

// The modes of routes in which a party is asked.
const (
	modeIssuer = 1
	modeBackup = 2
)

// asked is a party that was asked, and whether it has answered in time.
type asked struct {
	choice   route.Choice
	answered bool
}

// purchase is what the switch knows of a reference.
type purchase struct {
	original, inner api.Message
	from, issuer    string
	asked           []asked
	reply           api.Message
	code            string
	by              int // 0 as long as it is not decided
}

func (p *purchase) ref() string { return get(p.original, 37) }

// place returns the index of a party among those that were asked, or -1.
func (p *purchase) place(party string) int {
	return slices.IndexFunc(p.asked, func(a asked) bool { return a.choice.Party == party })
}

// request processes an authorization request.
func (s *Switch) request(at int, from string, m api.Message) []Out {
	ref := get(m, 37)
	if p := s.purchases[ref]; p != nil {
		if p.by == 0 {
			return nil
		}
		return []Out{{To: from, Message: clone.Message(p.reply)}}
	}
	p := &purchase{original: m, inner: m, from: from}
	s.purchases[ref] = p
	if s.reversed[ref] || !s.resolve(at, p) {
		return s.decide(at, p, verdict{code: refused, by: bySwitch})
	}
	c, e := s.router.Choose(get(p.inner, 2))
	if e != api.OK {
		return s.decide(at, p, verdict{code: unknownCard, by: bySwitch})
	}
	p.issuer = c.Issuer
	return s.goOn(at, p, c)
}

// resolve replaces a token in the inner request by its card number; false if the token cannot be used.
func (s *Switch) resolve(at int, p *purchase) bool {
	number := get(p.original, 2)
	if s.vault == nil || !s.vault.Is(number) {
		return true
	}
	card, e := s.vault.Resolve(number, get(p.original, 32), get(p.original, 42), at)
	if e != api.OK {
		return false
	}
	p.inner, e = message.With(p.original, 2, card)
	return e == api.OK
}

// goOn asks the party of a choice, or decides without one.
func (s *Switch) goOn(at int, p *purchase, c route.Choice) []Out {
	if s.reversed[p.ref()] {
		return s.decide(at, p, verdict{code: refused, by: bySwitch})
	}
	if c.Mode == modeIssuer || c.Mode == modeBackup {
		return s.ask(at, p, c)
	}
	amount, _ := message.Number(p.inner, 4)
	ok, e := s.standIn.Decide(at, p.ref(), c.Issuer, get(p.inner, 2), amount)
	if e != api.OK || !ok {
		return s.decide(at, p, verdict{code: noIssuer, by: byStandIn})
	}
	return s.decide(at, p, verdict{code: approved, amount: get(p.original, 4), by: byStandIn})
}

// ask sends the inner request to the party of a choice.
func (s *Switch) ask(at int, p *purchase, c route.Choice) []Out {
	key := p.ref() + "/" + strconv.Itoa(len(p.asked))
	p.asked = append(p.asked, asked{choice: c})
	encoded, e := message.Encode(p.inner)
	if e != api.OK || s.exchange.Begin(at, key, encoded) != api.OK {
		return nil
	}
	return []Out{{To: c.Party, Message: clone.Message(p.inner)}}
}

// lost goes on after a party that did not answer the request with a key.
func (s *Switch) lost(at int, key string) []Out {
	ref, number, _ := strings.Cut(key, "/")
	p := s.purchases[ref]
	i, err := strconv.Atoi(number)
	if p == nil || err != nil || i >= len(p.asked) {
		return nil
	}
	before := p.asked[i].choice
	s.router.Fail(before.Party)
	c, e := s.router.After(before)
	if e != api.OK {
		return nil
	}
	return s.goOn(at, p, c)
}

// reply processes the reply of a party that was asked.
func (s *Switch) reply(at int, from string, m api.Message) []Out {
	p := s.purchases[get(m, 37)]
	if p == nil || p.place(from) < 0 {
		return nil
	}
	s.router.Good(from)
	i := p.place(from)
	encoded, _ := message.Encode(m)
	outcome, e := s.exchange.Reply(at, p.ref()+"/"+strconv.Itoa(i), encoded)
	if e != api.OK || outcome != 1 {
		return nil
	}
	p.asked[i].answered = true
	v := verdict{code: get(m, 39), amount: get(m, 4), approval: get(m, 38), by: byBackup}
	if v.amount == "" {
		v.amount = get(p.original, 4)
	}
	if from == p.issuer {
		v.by = byIssuer
	}
	return s.decide(at, p, v)
}

// verdict is how a purchase is decided: amount and approval are the values of the elements 4 and 38 of the reply.
type verdict struct {
	code, amount, approval string
	by                     int
}

func (v verdict) approves() bool { return v.code == approved || v.code == partly }

// decide decides a purchase, and queues what parties must be told because of it.
func (s *Switch) decide(at int, p *purchase, v verdict) []Out {
	p.code, p.by = v.code, v.by
	p.reply, _ = message.Reply(p.original, v.code)
	if v.approves() {
		if v.approval == "" {
			v.approval = p.ref()[len(p.ref())-approvalSize:]
		}
		p.reply, _ = message.With(p.reply, 4, v.amount)
		p.reply, _ = message.With(p.reply, 38, v.approval)
	}
	issuerAnswered := false
	for _, a := range p.asked {
		isIssuer := a.choice.Party == p.issuer
		issuerAnswered = issuerAnswered || isIssuer && a.answered
		if !a.answered && !(isIssuer && v.approves()) {
			s.put(at, a.choice.Party, p.reversal())
		}
	}
	if v.approves() && !issuerAnswered {
		s.put(at, p.issuer, p.advice(v.amount))
	}
	return []Out{{To: p.from, Message: clone.Message(p.reply)}}
}

// advice tells the issuer that somebody has approved an amount in its place.
func (p *purchase) advice(amount string) api.Message {
	m := message.Without(p.inner, 54)
	m.Type = api.AuthAdvice
	m, _ = message.With(m, 4, amount)
	m, _ = message.With(m, 39, approved)
	return m
}

// reversal takes back what a party that did not answer may have approved.
func (p *purchase) reversal() api.Message {
	m := api.Message{Type: api.ReverseAdvice}
	for _, n := range []int{2, 4, 11, 32, 37, 49} {
		m, _ = message.With(m, n, get(p.inner, n))
	}
	m, _ = message.With(m, 56, p.ref())
	return m
}
