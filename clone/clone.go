// Package clone copies values that contain slices, so that the copies share no memory with them.
package clone

import (
	"slices"

	"cardnet/api"
)

// Expr returns a copy of an expression.
func Expr(e api.Expr) api.Expr {
	e.Args = each(e.Args, Expr)
	return e
}

// each returns the results of a function for all items.
func each[T any](l []T, copied func(T) T) []T {
	var copies []T
	for _, x := range l {
		copies = append(copies, copied(x))
	}
	return copies
}

// Rules returns a copy of fraud rules.
func Rules(l []api.Rule) []api.Rule {
	return each(l, func(r api.Rule) api.Rule {
		r.When = Expr(r.When)
		return r
	})
}

// FeeRules returns a copy of fee rules.
func FeeRules(l []api.FeeRule) []api.FeeRule {
	return each(l, func(r api.FeeRule) api.FeeRule {
		r.When = Expr(r.When)
		return r
	})
}

// Message returns a copy of a message.
func Message(m api.Message) api.Message {
	m.Elements = slices.Clone(m.Elements)
	return m
}

// Reason returns a copy of a reason.
func Reason(r api.Reason) api.Reason {
	r.Claim, r.Defence = slices.Clone(r.Claim), slices.Clone(r.Defence)
	return r
}

// Reasons returns a copy of a table of reasons.
func Reasons(l []api.Reason) []api.Reason { return each(l, Reason) }

// Entry returns a copy of an entry.
func Entry(e api.Entry) api.Entry {
	e.Postings = slices.Clone(e.Postings)
	return e
}

// Entries returns a copy of entries.
func Entries(l []api.Entry) []api.Entry { return each(l, Entry) }
