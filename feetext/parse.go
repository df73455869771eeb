package feetext

import (
	"strings"

	"cardnet/api"
	"cardnet/lexer"
	"cardnet/ruletext"
	"cardnet/text"
)

// masked returns s with a space in place of each byte of its fractions.
func masked(s string) string {
	b := []byte(s)
	for i := 0; i < len(s); {
		switch {
		case s[i] == '#':
			i += through(s[i:], "\n")
		case s[i] == '"':
			i += 1 + through(s[i+1:], "\"")
		case isWordByte(s[i]):
			// Only a digit at the beginning of a word can begin a percentage.
			begin, end := fraction(s[i:])
			for k := i + begin; k < i+end; k++ {
				b[k] = ' '
			}
			i += max(end, wordLength(s[i:]))
		default:
			i++
		}
	}
	return string(b)
}

// through returns the number of bytes up to a mark, included; all if there is none.
func through(s, mark string) int {
	i := strings.Index(s, mark)
	if i < 0 {
		return len(s)
	}
	return i + 1
}

func isWordByte(c byte) bool { return text.Letter(c) || text.Digit(c) || c == '_' }

func wordLength(s string) int {
	n := 0
	for n < len(s) && isWordByte(s[n]) {
		n++
	}
	return n
}

func digitsLength(s string) int {
	n := 0
	for n < len(s) && text.Digit(s[n]) {
		n++
	}
	return n
}

// fraction returns where the fraction of the percentage at the beginning of s begins and ends; 0 and 0 if there is none.
func fraction(s string) (begin, end int) {
	point := digitsLength(s)
	if point == 0 || point == len(s) || s[point] != '.' {
		return 0, 0
	}
	digits := digitsLength(s[point+1:])
	end = point + 1 + digits
	if digits == 0 || end == len(s) || s[end] != '%' {
		return 0, 0
	}
	return point, end
}

// failure is what a panic carries out of the nested functions of the parser.
type failure struct {
	err api.Errno
	at  int
}

// parser reads the lexemes of a text without fractions.
type parser struct {
	source, masked string
	lexemes        []api.Lexeme
	next           int
	names          map[string]bool
}

func fail(err api.Errno, at int) { panic(failure{err: err, at: at}) }

// Parse returns the rules with this text, or an error and its offset.
func Parse(s string) (l []api.FeeRule, err api.Errno, at int) {
	p := &parser{source: s, masked: masked(s), names: map[string]bool{}}
	p.lexemes, err, at = lexer.Scan(p.masked)
	if err != api.OK {
		return nil, err, at
	}
	defer func() {
		if f, ok := recover().(failure); ok {
			l, err, at = nil, f.err, f.at
		}
	}()
	for p.peek().Kind != api.LxEnd {
		start := p.peek().At
		p.word("fee")
		if len(l) >= api.MaxRules {
			fail(api.ErrLong, start)
		}
		l = append(l, p.rule())
	}
	return l, api.OK, 0
}

func (p *parser) peek() api.Lexeme { return p.lexemes[p.next] }

// is reports whether a lexeme comes next.
func (p *parser) is(kind int, s string) bool {
	x := p.peek()
	return x.Kind == kind && x.Text == s
}

// word moves past a name that must come next.
func (p *parser) word(s string) { p.must(p.is(api.LxName, s)) }

// must moves past the next lexeme, which cannot stand in its place unless something is true.
func (p *parser) must(can bool) api.Lexeme {
	x := p.peek()
	if !can {
		fail(api.ErrFormat, x.At)
	}
	p.next++
	return x
}

// rule reads a rule after the word fee.
func (p *parser) rule() api.FeeRule {
	r := api.FeeRule{}
	x := p.must(p.peek().Kind == api.LxName && isName(p.peek().Text))
	if p.names[x.Text] {
		fail(api.ErrExists, x.At)
	}
	r.Name = x.Text
	p.names[r.Name] = true
	p.word("when")
	r.When = p.expr()
	p.must(p.is(api.LxMark, ":"))
	r.Bps = p.percent()
	r.Fixed = p.option(p.is(api.LxMark, "+"))
	r.Min = p.option(p.is(api.LxName, "min"))
	r.Max = p.option(p.is(api.LxName, "max"))
	p.must(p.is(api.LxMark, ";"))
	return r
}

// expr reads an expression. No expression contains a colon, so it ends before the next one at the latest.
func (p *parser) expr() api.Expr {
	start := p.peek().At
	for !p.is(api.LxMark, ":") && p.peek().Kind != api.LxEnd {
		p.next++
	}
	e, err, at := ruletext.ParseExpr(p.masked[start:p.peek().At])
	if err != api.OK {
		fail(err, start+at)
	}
	return e
}

// percent reads a percentage, of which the bytes count and not only the lexemes.
func (p *parser) percent() int {
	number := p.must(p.peek().Kind == api.LxNumber)
	mark := p.must(p.is(api.LxMark, "%"))
	bps, e := ParsePercent(p.source[number.At : mark.At+1])
	if e != api.OK {
		fail(api.ErrFormat, number.At)
	}
	return bps
}

// option reads the number after the next lexeme, if that begins an optional part.
func (p *parser) option(begins bool) int64 {
	if !begins {
		return 0
	}
	p.next++
	return p.must(p.peek().Kind == api.LxNumber).N
}
