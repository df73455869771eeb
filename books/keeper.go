package books

import (
	"slices"

	"cardnet/api"
	"cardnet/disk"
	"cardnet/journal"
)

const mostOps = 16 // of a group

// Keeper keeps books on a disk.
type Keeper struct {
	setup   Setup
	journal *journal.Journal
	books   *Books
	// trial has the same contents as the books: operations are tried there, because the books cannot take them back.
	trial   *Books
	count   int
	stopped bool
}

// Replay returns the books after the operations with these texts.
func Replay(s Setup, l []string) (*Books, api.Errno) {
	b, e := New(s)
	if e != api.OK {
		return nil, e
	}
	for _, x := range l {
		op, e := Decode(x)
		if e != api.OK {
			return nil, e
		}
		if e := b.Do(op); e != api.OK {
			return nil, e
		}
	}
	return b, api.OK
}

// Open returns the keeper of the books on a disk.
func Open(s Setup, d *disk.Disk) (*Keeper, api.Errno) {
	if d == nil {
		return nil, api.ErrNone
	}
	if _, e := New(s); e != api.OK {
		return nil, e
	}
	j, e := journal.Open(d)
	if e != api.OK {
		return nil, e
	}
	b, e := Replay(s, j.Records())
	if e != api.OK {
		return nil, e
	}
	s.Parties, s.Holidays = slices.Clone(s.Parties), slices.Clone(s.Holidays)
	k := &Keeper{setup: s, journal: j, books: b, count: len(j.Records())}
	k.renew()
	return k, api.OK
}

// renew gives the keeper a trial that has seen complete groups alone.
func (k *Keeper) renew() { k.trial, _ = Replay(k.setup, k.journal.Records()) }

// Do performs operations as a whole, and keeps them.
func (k *Keeper) Do(l []Op) api.Errno {
	if k == nil || k.journal == nil {
		return api.ErrNone
	}
	if k.stopped {
		return api.ErrDown
	}
	if len(l) == 0 || len(l) > mostOps {
		return api.ErrRange
	}
	if done, e := k.try(l); e != api.OK {
		k.journal.Drop()
		if done > 0 {
			k.renew()
		}
		return e
	}
	if e := k.journal.Commit(); e != api.OK {
		k.stopped = true
		return e
	}
	for _, op := range l {
		k.books.Do(op)
	}
	k.count += len(l)
	return api.OK
}

// try performs operations on the trial, and adds their texts to the present group of the journal. It returns how many the trial has performed.
func (k *Keeper) try(l []Op) (int, api.Errno) {
	var texts []string
	for done, op := range l {
		if e := k.trial.Do(op); e != api.OK {
			return done, e
		}
		s, _ := Encode(op)
		texts = append(texts, s)
	}
	for _, s := range texts {
		if e := k.journal.Append(s); e != api.OK {
			return len(l), e
		}
	}
	return len(l), api.OK
}

// Books returns the books.
func (k *Keeper) Books() *Books {
	if k == nil {
		return nil
	}
	return k.books
}

// Count returns how many operations were kept.
func (k *Keeper) Count() int {
	if k == nil {
		return 0
	}
	return k.count
}
