package authswitch

import (
	"strconv"
	"strings"
	"testing"

	"cardnet/api"
	"cardnet/message"
	"cardnet/route"
	"cardnet/standin"
	"cardnet/token"
)

const (
	card = "4000000000000077"
	far  = "5100000000000008"
)

func of(t *testing.T, backups ...route.Backup) *Switch {
	t.Helper()
	l := []api.Range{{Low: "400000", High: "400999", Issuer: "homebank", Product: "gold"}, {Low: "51", High: "51", Issuer: "farbank", Product: "x"}}
	s, e := New(l, backups, []standin.Limit{{Issuer: "homebank", Each: 1000, Day: 5000, Count: 5}}, 30, 60)
	if e != api.OK {
		t.Fatal(e)
	}
	return s
}

func ref(n int) string {
	s := strconv.Itoa(n)
	return strings.Repeat("0", 12-len(s)) + s
}

func with(m api.Message, more ...any) api.Message {
	for i := 0; i < len(more); i += 2 {
		next, e := message.With(m, more[i].(int), more[i+1].(string))
		if e != api.OK {
			panic(more[i+1])
		}
		m = next
	}
	return m
}

func request(n int, amount int, more ...any) api.Message {
	m := with(api.Message{Type: 100}, 2, card, 3, "000000", 4, ref(amount), 7, "0000000000005", 11, ref(n)[6:], 32, "shopbank", 37, ref(n), 41, "T1", 42, "m1", 49, "EUR")
	return with(m, more...)
}

func reply(n int, code string, more ...any) api.Message {
	return with(with(api.Message{Type: 110}, 37, ref(n), 39, code), more...)
}

func reversal(kind, n, original int) api.Message {
	return with(api.Message{Type: kind}, 2, "999999999999", 4, ref(1), 11, ref(n)[6:], 32, "shopbank", 37, ref(n), 49, "EUR", 56, ref(original))
}

func ack(kind, n int, more ...any) api.Message {
	return with(with(api.Message{Type: kind}, 37, ref(n), 39, "00"), more...)
}

// show describes messages: receiver, type, reference, and further elements if they are there.
func show(outs []Out) string {
	var l []string
	for _, o := range outs {
		s := o.To + " " + strconv.Itoa(o.Message.Type) + " " + strings.TrimLeft(get(o.Message, 37), "0")
		for _, n := range []int{39, 4, 38, 56} {
			if v, ok := message.Get(o.Message, n); ok {
				s += " " + strconv.Itoa(n) + "=" + strings.TrimLeft(v, "0")
			}
		}
		if v, ok := message.Get(o.Message, 2); ok && v != card {
			s += " card " + v
		}
		if e := message.Check(o.Message); e != api.OK {
			s += " is not valid"
		}
		l = append(l, s)
	}
	return strings.Join(l, "; ")
}

func handle(t *testing.T, s *Switch, at int, from string, m api.Message, want string) {
	t.Helper()
	outs, e := s.Handle(at, from, m)
	if got := show(outs); got != want || e != api.OK {
		t.Errorf("%q, want %q, error %d", got, want, e)
	}
}

func poll(t *testing.T, s *Switch, at int, want string) {
	t.Helper()
	if got := show(s.Poll(at)); got != want {
		t.Errorf("%q, want %q", got, want)
	}
}

func decision(t *testing.T, s *Switch, n int, code string, by int) {
	t.Helper()
	if c, b, ok := s.Decision(ref(n)); c != code || b != by || ok != (by > 0) {
		t.Error(n, c, b, ok)
	}
}

func TestP31_1New(t *testing.T) {
	good := []api.Range{{Low: "4", High: "4", Issuer: "a", Product: "b"}}
	for i, c := range []struct {
		l              []api.Range
		b              []route.Backup
		s              []standin.Limit
		timeout, retry int
		want           api.Errno
	}{{make([]api.Range, 65), nil, nil, 1, 1, api.ErrLong}, {good, []route.Backup{{Issuer: "x", Party: "y"}}, []standin.Limit{{}}, 0, 0, api.ErrNone}, {good, nil, []standin.Limit{{}}, 0, 0, api.ErrName}, {good, nil, nil, 0, 1, api.ErrRange}, {good, nil, nil, 1, 0, api.ErrRange}, {good, nil, nil, 1, 1, api.OK}} {
		if s, e := New(c.l, c.b, c.s, c.timeout, c.retry); e != c.want || (s == nil) != (e != api.OK) {
			t.Error(i, e)
		}
	}
}

func TestP31_3Handle(t *testing.T) {
	s := of(t)
	for i, c := range []struct {
		at   int
		from string
		m    api.Message
		want api.Errno
	}{
		{-1, "a-b", api.Message{}, api.ErrName}, {-1, "a", api.Message{}, api.ErrRange}, {-1, "a", api.Message{Type: 120}, api.ErrShort}, {-1, "a", api.Message{Type: 1}, api.ErrTime}, {api.MaxTime + 1, "a", api.Message{Type: 1}, api.ErrTime}, {0, "a", api.Message{Type: 1}, api.ErrState}, {0, "a", with(api.Message{Type: 410}, 37, ref(1), 39, "00", 56, ref(2)), api.ErrState},
	} {
		if outs, e := s.Handle(c.at, c.from, c.m); outs != nil || e != c.want {
			t.Error(i, e)
		}
	}
	handle(t, s, 10, "x", reply(9, "00"), "")
	if _, e := s.Handle(9, "x", reply(9, "00")); e != api.ErrTime {
		t.Error(e)
	}
	poll(t, s, 9, "")
	poll(t, s, 20, "")
	poll(t, s, api.MaxTime+1, "")
	if _, e := s.Handle(19, "x", reply(9, "00")); e != api.ErrTime {
		t.Error(e)
	}
	for i := range api.MaxAuths {
		s.Handle(20, "shopbank", request(i+1, 1, 2, "6000000000000007"))
	}
	if _, e := s.Handle(20, "shopbank", request(999, 1)); e != api.ErrFull {
		t.Error(e)
	}
	handle(t, s, 20, "shopbank", request(1, 1), "shopbank 110 1 39=14 4=1 card 6000000000000007")
}

func TestP31_4P31_5P31_13Requests(t *testing.T) {
	s := of(t)
	m := request(1, 700)
	handle(t, s, 10, "shopbank", m, "homebank 100 1 4=700")
	m.Elements[0].Value = "changed"
	handle(t, s, 10, "shopbank", request(1, 999), "")
	decision(t, s, 1, "", 0)
	if at, ok := s.Next(); at != 40 || !ok || s.Waiting() != 1 {
		t.Error(at, ok)
	}
	handle(t, s, 12, "farbank", reply(1, "00"), "")
	handle(t, s, 12, "homebank", reply(1, "00"), "shopbank 110 1 39= 4=700 38=1")
	decision(t, s, 1, "00", 1)
	handle(t, s, 13, "other", request(1, 999), "other 110 1 39= 4=700 38=1")
	handle(t, s, 13, "homebank", reply(1, "05"), "")
	decision(t, s, 1, "00", 1)
	handle(t, s, 14, "shopbank", request(2, 700), "homebank 100 2 4=700")
	handle(t, s, 15, "homebank", reply(2, "10", 4, ref(300), 38, "123456"), "shopbank 110 2 39=10 4=300 38=123456")
	handle(t, s, 15, "shopbank", request(3, 700), "homebank 100 3 4=700")
	handle(t, s, 15, "homebank", reply(3, "51", 4, ref(300)), "shopbank 110 3 39=51 4=700")
	handle(t, s, 15, "shopbank", request(4, 700, 2, "6000000000000007"), "shopbank 110 4 39=14 4=700 card 6000000000000007")
	decision(t, s, 4, "14", 4)
	handle(t, s, 15, "shopbank", request(5, 700, 2, "6000000000000008"), "shopbank 110 5 39=14 4=700 card 6000000000000008")
	poll(t, s, 99, "")
	if at, ok := s.Next(); at != 0 || ok || s.Waiting() != 0 {
		t.Error(at, ok)
	}
}

func TestP31_2P31_4Tokens(t *testing.T) {
	s := of(t)
	v, _ := token.New("9", 16)
	s.Vault(v)
	tok, e := v.Provision(card, api.Domain{Requestor: "shopbank", Merchant: "m1", Until: 50}, 5)
	if e != api.OK {
		t.Fatal(e)
	}
	handle(t, s, 10, "shopbank", request(1, 700, 2, tok), "homebank 100 1 4=700")
	handle(t, s, 11, "homebank", reply(1, "00"), "shopbank 110 1 39= 4=700 38=1 card "+tok)
	handle(t, s, 11, "shopbank", request(2, 700, 2, tok, 42, "m2"), "shopbank 110 2 39=5 4=700 card "+tok)
	decision(t, s, 2, "05", 4)
	handle(t, s, 12, "shopbank", request(3, 700, 2, tok, 54, ref(1)), "homebank 100 3 4=700")
	poll(t, s, 42, "shopbank 110 3 39= 4=700 38=3 card "+tok+"; homebank 120 3 39= 4=700")
	handle(t, s, 43, "shopbank", reversal(420, 50, 3), "shopbank 430 50 39= 4=1 56=3 card 999999999999")
	poll(t, s, 43, "homebank 420 50 4=1 56=3")
	handle(t, s, 50, "shopbank", request(4, 700, 2, tok), "shopbank 110 4 39=5 4=700 card "+tok)
	s.Vault(nil)
	handle(t, s, 50, "shopbank", request(5, 700, 2, tok), "shopbank 110 5 39=14 4=700 card "+tok)
	(*Switch)(nil).Vault(v)
}

func TestP31_6P31_7P31_8Reversals(t *testing.T) {
	s := of(t)
	handle(t, s, 10, "shopbank", reversal(400, 50, 1), "shopbank 410 50 39= 4=1 56=1 card 999999999999")
	poll(t, s, 10, "")
	handle(t, s, 10, "shopbank", request(1, 700), "shopbank 110 1 39=5 4=700")
	decision(t, s, 1, "05", 4)
	handle(t, s, 10, "shopbank", reversal(420, 51, 1), "shopbank 430 51 39= 4=1 56=1 card 999999999999")
	poll(t, s, 10, "")
	handle(t, s, 20, "shopbank", request(2, 700), "homebank 100 2 4=700")
	handle(t, s, 21, "shopbank", reversal(420, 52, 2), "shopbank 430 52 39= 4=1 56=2 card 999999999999")
	handle(t, s, 21, "shopbank", reversal(420, 52, 2), "shopbank 430 52 39= 4=1 56=2 card 999999999999")
	decision(t, s, 2, "", 0)
	poll(t, s, 21, "homebank 420 52 4=1 56=2")
	if s.Waiting() != 2 {
		t.Error(s.Waiting())
	}
	poll(t, s, 50, "shopbank 110 2 39=5 4=700; homebank 420 2 4=700 56=2")
	decision(t, s, 2, "05", 4)
	handle(t, s, 51, "farbank", ack(430, 52, 56, ref(2)), "")
	handle(t, s, 51, "nobody", ack(430, 52, 56, ref(2)), "")
	handle(t, s, 51, "homebank", ack(430, 52, 56, ref(2)), "")
	poll(t, s, 110, "homebank 420 2 4=700 56=2")
	handle(t, s, 111, "homebank", ack(430, 2, 56, ref(2)), "")
	handle(t, s, 111, "shopbank", with(api.Message{Type: 800}, 11, "000001", 70, "301"), "shopbank 810  39=")
	poll(t, s, 999, "")
	if s.Waiting() != 0 {
		t.Error(s.Waiting())
	}
}

func TestP31_9P31_14P31_15StandIn(t *testing.T) {
	s := of(t)
	handle(t, s, 10, "shopbank", request(1, 1000, 54, ref(5)), "homebank 100 1 4=1000")
	handle(t, s, 11, "shopbank", request(2, 2000), "homebank 100 2 4=2000")
	poll(t, s, 39, "")
	poll(t, s, 40, "shopbank 110 1 39= 4=1000 38=1; homebank 120 1 39= 4=1000")
	decision(t, s, 1, "00", 3)
	poll(t, s, 41, "shopbank 110 2 39=91 4=2000; homebank 420 2 4=2000 56=2")
	decision(t, s, 2, "91", 3)
	if at, ok := s.Next(); at != 100 || !ok || s.Waiting() != 2 {
		t.Error(at, ok)
	}
	poll(t, s, 100, "homebank 120 1 39= 4=1000")
	handle(t, s, 101, "homebank", ack(130, 1), "")
	poll(t, s, 161, "homebank 420 2 4=2000 56=2")
	handle(t, s, 162, "homebank", ack(430, 2, 56, ref(2)), "")
	handle(t, s, 163, "homebank", reply(1, "05"), "")
	decision(t, s, 1, "00", 3)
	for n := 3; n <= 7; n++ {
		s.Handle(200, "shopbank", request(n, 1000))
	}
	s.Poll(230)
	decision(t, s, 6, "00", 3)
	decision(t, s, 7, "91", 3)
	handle(t, s, 231, "shopbank", reversal(420, 90, 6), "shopbank 430 90 39= 4=1 56=6 card 999999999999")
	handle(t, s, 231, "shopbank", request(8, 1000), "shopbank 110 8 39= 4=1000 38=8")
	decision(t, s, 8, "00", 3)
	handle(t, s, 231, "shopbank", request(9, 1000), "shopbank 110 9 39=91 4=1000")
	handle(t, s, 232, "homebank", ack(130, 8), "")
	handle(t, s, 232, "shopbank", request(10, 1000), "homebank 100 10 4=1000")
	handle(t, s, 300, "homebank", reply(10, "00"), "")
	decision(t, s, 10, "", 0)
	if s.Waiting() == 0 {
		t.Error("reversals wait")
	}
	out := show(s.Poll(300))
	if !strings.HasPrefix(out, "shopbank 110 10 39=91 4=1000; ") || !strings.Contains(out, "homebank 420 10 4=1000 56=10") {
		t.Error(out)
	}
}

func TestP31_9Backups(t *testing.T) {
	s := of(t, route.Backup{Issuer: "homebank", Party: "helper"}, route.Backup{Issuer: "homebank", Party: "farbank"})
	handle(t, s, 10, "shopbank", request(1, 700), "homebank 100 1 4=700")
	poll(t, s, 40, "helper 100 1 4=700")
	handle(t, s, 45, "homebank", reply(1, "00"), "")
	handle(t, s, 45, "helper", reply(1, "10", 4, ref(600)), "shopbank 110 1 39=10 4=600 38=1")
	decision(t, s, 1, "10", 2)
	poll(t, s, 45, "homebank 120 1 39= 4=600")
	handle(t, s, 46, "homebank", ack(130, 1), "")
	handle(t, s, 50, "shopbank", request(2, 700), "homebank 100 2 4=700")
	poll(t, s, 80, "helper 100 2 4=700")
	poll(t, s, 110, "farbank 100 2 4=700")
	handle(t, s, 111, "farbank", reply(2, "05"), "shopbank 110 2 39=5 4=700")
	poll(t, s, 111, "homebank 420 2 4=700 56=2; helper 420 2 4=700 56=2")
	handle(t, s, 112, "homebank", ack(430, 2, 56, ref(2)), "")
	handle(t, s, 112, "helper", ack(430, 2, 56, ref(2)), "")
	handle(t, s, 120, "shopbank", request(3, 700), "homebank 100 3 4=700")
	poll(t, s, 150, "helper 100 3 4=700")
	poll(t, s, 180, "farbank 100 3 4=700")
	poll(t, s, 210, "shopbank 110 3 39= 4=700 38=3; helper 420 3 4=700 56=3; farbank 420 3 4=700 56=3; homebank 120 3 39= 4=700")
	decision(t, s, 3, "00", 3)
	for n := 4; n < 6; n++ {
		s.Handle(211, "shopbank", request(n, 1))
	}
	s.Poll(241)
	handle(t, s, 241, "shopbank", request(6, 1), "helper 100 6 4=1")
	handle(t, s, 242, "homebank", ack(130, 99), "")
	handle(t, s, 242, "shopbank", request(7, 1), "homebank 100 7 4=1")
}

func TestP31_10P31_11P31_12Queries(t *testing.T) {
	s := of(t)
	s.Handle(10, "shopbank", request(1, 2000))
	s.Poll(40)
	s.Handle(45, "shopbank", request(2, 5, 2, far))
	if at, ok := s.Next(); at != 75 || !ok || s.Waiting() != 2 {
		t.Error(at, ok, s.Waiting())
	}
	decision(t, s, 9, "", 0)
	for _, none := range []*Switch{nil, {}} {
		_, e := none.Handle(0, "a", request(1, 1))
		_, ok := none.Next()
		_, _, known := none.Decision(ref(1))
		if e != api.ErrNone || ok || known || none.Poll(0) != nil || none.Waiting() != 0 {
			t.Error("missing switch")
		}
	}
}
