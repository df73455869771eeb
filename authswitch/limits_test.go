package authswitch

import (
	"testing"

	"cardnet/api"
	"cardnet/message"
	"cardnet/route"
)

func TestP31_3P31_5P31_9Limits(t *testing.T) {
	s := of(t, route.Backup{Issuer: "homebank", Party: "helper"})
	for n := 1; n <= 2; n++ {
		s.Handle(0, "shopbank", request(n, 5))
		s.Poll(30 * n)
		s.Handle(30*n, "helper", reply(n, "05"))
	}
	handle(t, s, 60, "shopbank", request(3, 5), "homebank 100 3 4=5")
	handle(t, s, 60, "homebank", reply(3, "05"), "shopbank 110 3 39=5 4=5")
	for n := 4; n <= 5; n++ {
		s.Handle(60, "shopbank", request(n, 5))
	}
	s.Poll(90)
	handle(t, s, 90, "shopbank", request(6, 5), "homebank 100 6 4=5")
	if _, e := s.Handle(api.MaxTime, "x", reply(9, "00")); e != api.OK {
		t.Error(e)
	}
}

func TestP31_7P31_14Advice(t *testing.T) {
	s := of(t)
	s.Handle(0, "shopbank", request(1, 5, 54, ref(3), 55, "000001"))
	outs := s.Poll(30)
	if len(outs) != 2 || outs[1].Message.Type != 120 {
		t.Fatal(show(outs))
	}
	if _, ok := message.Get(outs[1].Message, 54); ok {
		t.Error("an advice with the element 54")
	}
	if v, _ := message.Get(outs[1].Message, 55); v != "000001" {
		t.Error("an advice without another element")
	}
	for n := 2; n <= 4; n++ {
		s.Handle(30, "shopbank", request(n, 5))
	}
	s.Poll(60)
	handle(t, s, 60, "shopbank", request(5, 5), "shopbank 110 5 39= 4=5 38=5")
	handle(t, s, 60, "homebank", ack(130, 99), "")
	handle(t, s, 60, "shopbank", request(6, 5), "homebank 100 6 4=5")
}
