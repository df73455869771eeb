package fraud

import (
	"slices"

	"cardnet/api"
	"cardnet/velocity"
)

const (
	mostKey  = 40
	mostUses = 1000
)

type use struct {
	key    string
	at     int
	amount int64
}

// windows counts uses. It lists them, too: whether several can be added or taken back must be known before the first one is.
type windows struct {
	counts  *velocity.Windows
	horizon int
	uses    []use
}

func newWindows(horizon int) (windows, api.Errno) {
	counts, e := velocity.New(horizon)
	return windows{counts: counts, horizon: horizon}, e
}

// remembered returns how many uses are not too old at a time.
func (w *windows) remembered(at int) int {
	n := 0
	for _, u := range w.uses {
		if u.at > at-w.horizon {
			n++
		}
	}
	return n
}

func (w *windows) add(u use) {
	if w.counts.Add(u.key, u.at, u.amount) != api.OK {
		return
	}
	w.uses = slices.DeleteFunc(w.uses, func(old use) bool { return old.at <= u.at-w.horizon })
	w.uses = append(w.uses, u)
}

func (w *windows) takeBack(u use) {
	if w.counts.Remove(u.key, u.at, u.amount) != api.OK {
		return
	}
	i := slices.Index(w.uses, u)
	w.uses = slices.Delete(w.uses, i, i+1)
}

// moment answers for the counts and sums of conditions at a time.
type moment struct {
	windows
	keys map[string]string
	at   int
}

// Count returns how often the value of a feature was used.
func (m moment) Count(name string, window int) int64 {
	return int64(m.counts.Count(m.keys[name], m.at, window))
}

// Sum returns the sum of the amounts of these uses.
func (m moment) Sum(name string, window int) int64 {
	return m.counts.Sum(m.keys[name], m.at, window)
}
