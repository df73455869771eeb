package paynet

import (
	"slices"

	"cardnet/acquirer"
	"cardnet/api"
	"cardnet/authswitch"
	"cardnet/link"
	"cardnet/message"
)

// theSwitch is the party of the link that is the switch; the banks come after it, and then the acquirers.
const theSwitch = 0

// wires is the part of a network that communicates.
type wires struct {
	now       int
	link      *link.Link
	sw        *authswitch.Switch
	banks     []*bank
	acquirers []*acquirer.Host
	names     []string // of the parties of the link
}

// acquirerParty returns the party of the link that is an acquirer.
func (w *wires) acquirerParty(k int) int { return 1 + len(w.banks) + k }

func (w *wires) acquirerName(k int) string { return w.names[w.acquirerParty(k)] }

// send sends a message at the present time; what cannot be sent is lost.
func (w *wires) send(from, to int, m api.Message) {
	if s, e := message.Encode(m); e == api.OK {
		w.link.Send(w.now, from, to, s)
	}
}

// sendAll sends messages of the switch to the parties with their names.
func (w *wires) sendAll(outs []authswitch.Out) {
	for _, o := range outs {
		if to := slices.Index(w.names, o.To); to > theSwitch {
			w.send(theSwitch, to, o.Message)
		}
	}
}

// receive lets a party process what arrives.
func (w *wires) receive(a link.Arrival) {
	m, e := message.Decode(a.Text)
	if e != api.OK {
		return
	}
	if a.To == theSwitch {
		outs, _ := w.sw.Handle(w.now, w.names[a.From], m)
		w.sendAll(outs)
		return
	}
	if k := a.To - w.acquirerParty(0); k >= 0 {
		w.acquirers[k].Receive(w.now, m)
		return
	}
	if reply, e := w.banks[a.To-1].handle(w.now, m); e == api.OK {
		w.send(a.To, theSwitch, reply)
	}
}

// nextMessage returns the least time after the present one at which a message arrives or is due, or an authorization ends.
func (w *wires) nextMessage() (least int, found bool) {
	consider := func(at int, ok bool) {
		if ok && at > w.now && (!found || at < least) {
			least, found = at, true
		}
	}
	consider(w.link.Next())
	consider(w.sw.Next())
	for _, h := range w.acquirers {
		consider(h.Next())
	}
	for _, b := range w.banks {
		consider(b.next(), true)
	}
	return least, found
}

// quiet reports whether no message is under way or waits to be repeated.
func (w *wires) quiet() bool {
	if _, ok := w.link.Next(); ok || w.sw.Waiting() > 0 {
		return false
	}
	return !slices.ContainsFunc(w.acquirers, func(h *acquirer.Host) bool {
		_, ok := h.Next()
		return ok
	})
}
