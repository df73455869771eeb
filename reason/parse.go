package reason

import (
	"slices"

	"cardnet/api"
	"cardnet/lexer"
)

// reader reads the lexemes of a table up to the first error, and does nothing after it.
type reader struct {
	*lexer.Scanner
	err api.Errno
	at  int
}

// fail records an error at the next lexeme, if it is the first one.
func (r *reader) fail(err api.Errno) {
	if r.err == api.OK {
		r.err, r.at = err, r.Peek().At
	}
}

// Parse returns the table with this text, or an error and its offset.
func Parse(s string) ([]api.Reason, api.Errno, int) {
	scanner, e, at := lexer.NewScanner(s)
	if e != api.OK {
		return nil, e, at
	}
	r := &reader{Scanner: scanner}
	var l []api.Reason
	for r.err == api.OK && r.Peek().Kind != api.LxEnd {
		if len(l) >= mostReasons && oneOf(r.Peek().Text, "reason") && r.Peek().Kind == api.LxName {
			r.fail(api.ErrLong)
			break
		}
		l = append(l, r.reason(l))
	}
	if r.err != api.OK {
		return nil, r.err, r.at
	}
	return l, api.OK, 0
}

// reason reads a reason that comes after others.
func (r *reader) reason(others []api.Reason) api.Reason {
	x := api.Reason{}
	r.word("reason")
	x.Code = r.code(others)
	for _, days := range []*int{&x.FileDays, &x.RepresentDays, &x.PrearbDays, &x.AnswerDays} {
		*days = r.days()
	}
	r.word("claim")
	x.Claim = r.kinds()
	r.word("defence")
	x.Defence = r.kinds()
	if r.err == api.OK && !r.Mark(";") {
		r.fail(api.ErrFormat)
	}
	return x
}

func (r *reader) word(s string) {
	if r.err == api.OK && !r.Word(s) {
		r.fail(api.ErrFormat)
	}
}

func (r *reader) code(others []api.Reason) string {
	if r.Peek().Kind != api.LxName {
		r.fail(api.ErrFormat)
	}
	if _, ok := Find(others, r.Peek().Text); ok {
		r.fail(api.ErrExists)
	}
	return r.pass().Text
}

func (r *reader) days() int {
	if r.Peek().Kind != api.LxNumber {
		r.fail(api.ErrFormat)
	}
	if n := r.Peek().N; n < 1 || n > mostDays {
		r.fail(api.ErrRange)
	}
	return int(r.pass().N)
}

// kinds reads the kinds of a list, up to what is none.
func (r *reader) kinds() []string {
	var l []string
	for r.err == api.OK && r.Peek().Kind == api.LxName && isKind(r.Peek().Text) {
		if len(l) >= mostKinds {
			r.fail(api.ErrLong)
		}
		if slices.Contains(l, r.Peek().Text) {
			r.fail(api.ErrExists)
		}
		l = append(l, r.pass().Text)
	}
	return l
}

// pass moves past the next lexeme, unless there was an error.
func (r *reader) pass() api.Lexeme {
	if r.err != api.OK {
		return api.Lexeme{}
	}
	return r.Next()
}
