package console

import (
	"strconv"

	"cardnet/api"
	"cardnet/assess"
	"cardnet/binrange"
	"cardnet/calendar"
	"cardnet/feetext"
	"cardnet/matching"
	"cardnet/money"
	"cardnet/pan"
	"cardnet/paynet"
	"cardnet/rate"
	"cardnet/ruletext"
)

const mostParties = 4 // banks, and acquirers

// calculate executes a command that needs no network.
func (c *Console) calculate(x command) output {
	switch x.name {
	case "pan":
		return result(pan.Make(x.words[0], x.number(0), x.number(1)))
	case "check":
		return result("ok", pan.Check(x.words[0]))
	case "convert":
		return convert(x)
	case "split":
		return split(x)
	case "business":
		return business(x)
	case "ranges":
		return ranges(x.rest)
	case "rules":
		l, e, at := ruletext.Parse(x.rest)
		return parsed(ruletext.Format(l), e, at)
	case "fees":
		l, e, at := feetext.Parse(x.rest)
		return parsed(feetext.Format(l), e, at)
	}
	return c.start(x)
}

// parsed is the listing of what was parsed, or an error with its offset.
func parsed(s string, e api.Errno, at int) output {
	if e != api.OK {
		return output{err: e, at: at, hasAt: true}
	}
	return listing(s)
}

func convert(x command) output {
	m, e := money.Parse(x.words[0] + " " + x.words[1])
	if e != api.OK {
		return failed(e)
	}
	r, e := rate.Parse(x.words[2] + " " + x.words[3])
	if e != api.OK {
		return failed(e)
	}
	m, e = rate.Convert(m, r, api.HalfEven)
	return result(money.Format(m), e)
}

func split(x command) output {
	m, e := money.Parse(x.words[0] + " " + x.words[1])
	if e != api.OK {
		return failed(e)
	}
	parts, e := money.Split(m, x.numbers)
	if e != api.OK {
		return failed(e)
	}
	o := output{}
	for _, p := range parts {
		o.lines = append(o.lines, money.Format(p))
	}
	return o
}

func business(x command) output {
	date, e := calendar.Parse(x.words[0])
	if e != api.OK {
		return failed(e)
	}
	c, e := calendar.New(nil)
	if e != api.OK {
		return failed(e)
	}
	date, e = c.Add(date, x.number(0))
	return result(calendar.Format(date), e)
}

func ranges(s string) output {
	l, e, at := binrange.Parse(s)
	if e != api.OK {
		return parsed("", e, at)
	}
	l, e = binrange.Merge(l)
	if e != api.OK {
		return failed(e)
	}
	return listing(binrange.Format(l))
}

// start makes the standard network.
func (c *Console) start(x command) output {
	banks, acquirers, balance := x.number(0), x.number(1), x.numbers[2]
	if banks < 1 || banks > mostParties || acquirers < 1 || acquirers > mostParties || balance < 0 || balance > api.MaxAmount {
		return failed(api.ErrRange)
	}
	n, e := paynet.New(standard(banks, acquirers, balance))
	if e != api.OK {
		return failed(e)
	}
	c.net = n
	return lines("ok")
}

// standard returns the setup of the standard network.
func standard(banks, acquirers int, balance int64) paynet.Setup {
	s := paynet.Setup{
		Currency: "EUR", Latency: 1, Timeout: 60, Retry: 30, Days: 7, Cutoff: 64800,
		Tables: assess.Tables{
			Interchange: fee("interchange", 20, 0),
			Scheme:      fee("scheme", 5, 0),
			Merchant:    fee("merchant", 120, 5),
		},
		Tolerance: matching.Tolerance{Bps: 1500},
		Reasons:   []api.Reason{{Code: "fraud", FileDays: 120, RepresentDays: 45, PrearbDays: 30, AnswerDays: 30, Claim: []string{"letter"}, Defence: []string{"receipt"}}},
	}
	for k := range banks {
		low := 400000 + 1000*k
		s.Banks = append(s.Banks, paynet.Bank{Name: "bank" + strconv.Itoa(k), Low: strconv.Itoa(low), High: strconv.Itoa(low + 999), Cards: 2, Balance: balance, Daily: 1000000, Each: 1000, Day: 5000, Count: 5})
	}
	for k := range acquirers {
		s.Acquirers = append(s.Acquirers, "acq"+strconv.Itoa(k))
	}
	return s
}

// fee returns a table with one rule that always holds.
func fee(name string, bps int, fixed int64) []api.FeeRule {
	one := api.Expr{Op: api.XNumber, N: 1}
	return []api.FeeRule{{Name: name, When: api.Expr{Op: api.XEq, Args: []api.Expr{one, one}}, Bps: bps, Fixed: fixed}}
}
