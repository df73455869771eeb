package ruletext

import (
	"cardnet/api"
	"cardnet/lexer"
)

// failure is what a panic carries out of the nested functions of the parser.
type failure struct {
	err api.Errno
	at  int
}

// parser reads the lexemes of a text.
type parser struct{ *lexer.Scanner }

// fail gives the parse up with an error at a lexeme.
func fail(err api.Errno, x api.Lexeme) { panic(failure{err: err, at: x.At}) }

// parsed lets a function read a whole text, and returns the error and the offset at which it gave up.
func parsed(s string, read func(p parser)) (err api.Errno, at int) {
	scanner, err, at := lexer.NewScanner(s)
	if err != api.OK {
		return err, at
	}
	defer func() {
		if f, ok := recover().(failure); ok {
			err, at = f.err, f.at
		}
	}()
	p := parser{scanner}
	read(p)
	if x := p.Peek(); x.Kind != api.LxEnd {
		fail(api.ErrFormat, x)
	}
	return api.OK, 0
}

// Parse returns the rules with this text, or an error and its offset.
func Parse(s string) ([]api.Rule, api.Errno, int) {
	var l []api.Rule
	err, at := parsed(s, func(p parser) {
		names := map[string]bool{}
		for start := p.Peek(); p.Word("rule"); start = p.Peek() {
			if len(l) >= api.MaxRules {
				fail(api.ErrLong, start)
			}
			l = append(l, p.rule(names))
		}
	})
	if err != api.OK {
		return nil, err, at
	}
	return l, api.OK, 0
}

// ParseExpr returns the expression with this text, or an error and its offset.
func ParseExpr(s string) (api.Expr, api.Errno, int) {
	e := api.Expr{}
	err, at := parsed(s, func(p parser) { e = p.expr() })
	if err != api.OK {
		return api.Expr{}, err, at
	}
	return e, api.OK, 0
}

// word moves past a reserved word that must come next.
func (p parser) word(s string) {
	if !p.Word(s) {
		fail(api.ErrFormat, p.Peek())
	}
}

// mark moves past a mark that must come next.
func (p parser) mark(s string) {
	if !p.Mark(s) {
		fail(api.ErrFormat, p.Peek())
	}
}

// name reads a NAME that must come next.
func (p parser) name() string {
	x := p.Peek()
	if x.Kind != api.LxName || reserved(x.Text) {
		fail(api.ErrFormat, x)
	}
	return p.Next().Text
}

// number reads a NUMBER of at most some value that must come next.
func (p parser) number(most int64) int64 {
	x := p.Peek()
	if x.Kind != api.LxNumber || x.N > most {
		fail(api.ErrFormat, x)
	}
	return p.Next().N
}

// rule reads the rest of a rule; names has those of the rules before it.
func (p parser) rule(names map[string]bool) api.Rule {
	r := api.Rule{}
	x := p.Peek()
	r.Name = p.name()
	if names[r.Name] {
		fail(api.ErrExists, x)
	}
	names[r.Name] = true
	p.word("when")
	r.When = p.expr()
	p.mark(":")
	r.Action = p.action()
	if p.Word("score") {
		r.Score = int(p.number(mostScore))
	}
	p.mark(";")
	return r
}

func (p parser) action() int {
	for action := api.Pass; action <= api.Decline; action++ {
		if p.Word(actionWord(action)) {
			return action
		}
	}
	fail(api.ErrFormat, p.Peek())
	return api.Pass
}

func join(op int, args ...api.Expr) api.Expr { return api.Expr{Op: op, Args: args} }

func (p parser) expr() api.Expr {
	e := p.conj()
	for p.Word("or") {
		e = join(api.XOr, e, p.conj())
	}
	return e
}

func (p parser) conj() api.Expr {
	e := p.comp()
	for p.Word("and") {
		e = join(api.XAnd, e, p.comp())
	}
	return e
}

func (p parser) comp() api.Expr {
	e := p.sum()
	if p.Word("in") {
		return p.list(e)
	}
	for _, x := range []struct {
		mark string
		op   int
	}{{"=", api.XEq}, {"!=", api.XNe}, {"<", api.XLt}, {"<=", api.XLe}} {
		if p.Mark(x.mark) {
			return join(x.op, e, p.sum())
		}
	}
	return e
}

// list reads the list that follows the word in.
func (p parser) list(first api.Expr) api.Expr {
	p.mark("(")
	args := []api.Expr{first, p.sum()}
	for p.Mark(",") {
		args = append(args, p.sum())
	}
	p.mark(")")
	return join(api.XIn, args...)
}

func (p parser) sum() api.Expr {
	e := p.prod()
	for {
		switch {
		case p.Mark("+"):
			e = join(api.XAdd, e, p.prod())
		case p.Mark("-"):
			e = join(api.XSub, e, p.prod())
		default:
			return e
		}
	}
}

func (p parser) prod() api.Expr {
	e := p.unary()
	for p.Mark("*") {
		e = join(api.XMul, e, p.unary())
	}
	return e
}

func (p parser) unary() api.Expr {
	switch {
	case p.Word("not"):
		return join(api.XNot, p.unary())
	case p.Mark("-"):
		return join(api.XNeg, p.unary())
	case p.Word("count"):
		return p.window(api.XCount)
	case p.Word("sum"):
		return p.window(api.XSum)
	case p.Mark("("):
		e := p.expr()
		p.mark(")")
		return e
	}
	switch x := p.Peek(); x.Kind {
	case api.LxNumber:
		return api.Expr{Op: api.XNumber, N: p.number(mostNumber)}
	case api.LxText:
		return api.Expr{Op: api.XText, Text: p.Next().Text}
	}
	return api.Expr{Op: api.XName, Name: p.name()}
}

// window reads what follows the words count and sum.
func (p parser) window(op int) api.Expr {
	p.mark("(")
	name := p.name()
	p.mark(",")
	n := p.number(mostNumber)
	p.mark(")")
	return api.Expr{Op: op, Name: name, N: n}
}
