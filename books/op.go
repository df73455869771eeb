package books

import (
	"strconv"
	"strings"

	"cardnet/api"
	"cardnet/lexer"
	"cardnet/text"
)

// The kinds of operations.
const (
	opApprove = 1 + iota
	opRaise
	opReverse
	opClear
	opRefund
	opDispute
	opExpire
	opClose
)

const parts = 9 // of the text of an operation

// Op is an operation on the books: kinds 1 approve, 2 raise, 3 reverse, 4 clear, 5 refund, 6 dispute, 7 expire, 8 close.
type Op struct {
	Kind, At         int
	Id, Auth         string
	Issuer, Acquirer string
	Amount, Fee      int64
	Final            bool
}

// moves reports whether an operation of a kind lets a party owe another one something.
func moves(kind int) bool { return opClear <= kind && kind <= opDispute }

// usesAuth reports whether an operation of a kind is about an authorization.
func usesAuth(kind int) bool { return kind <= opClear || kind == opExpire }

// amounts returns the least and the greatest amount of an operation of a kind.
func amounts(kind int) (least, most int64) {
	switch kind {
	case opReverse:
		return 0, api.MaxAmount
	case opDispute:
		return -api.MaxAmount, api.MaxAmount
	case opClose:
		return 0, api.MaxDate
	case opExpire:
		return 0, 0
	}
	return 1, api.MaxAmount
}

func isIdent(s string) bool { return text.Ident(s, api.MaxName, "") }

// fits reports whether a text is of some form if it is used, and empty otherwise.
func fits(s string, used bool, form func(string) bool) bool {
	if !used {
		return s == ""
	}
	return form(s)
}

func check(op Op) api.Errno {
	if op.Kind < opApprove || op.Kind > opClose {
		return api.ErrRange
	}
	if op.At < 0 || op.At > api.MaxTime {
		return api.ErrTime
	}
	moved := moves(op.Kind)
	if !fits(op.Id, moved, isIdent) || !fits(op.Auth, usesAuth(op.Kind), isIdent) || !fits(op.Issuer, moved, lexer.IsName) || !fits(op.Acquirer, moved, lexer.IsName) {
		return api.ErrName
	}
	least, most := amounts(op.Kind)
	if op.Amount < least || op.Amount > most || op.Kind == opDispute && op.Amount == 0 {
		return api.ErrRange
	}
	mostFee := int64(0)
	if op.Kind == opClear || op.Kind == opRefund {
		mostFee = op.Amount
	}
	if op.Fee < 0 || op.Fee > mostFee {
		return api.ErrRange
	}
	if op.Final && op.Kind != opClear {
		return api.ErrFormat
	}
	if moved && op.Issuer == op.Acquirer {
		return api.ErrExists
	}
	return api.OK
}

// Encode returns the text of an operation.
func Encode(op Op) (string, api.Errno) {
	if e := check(op); e != api.OK {
		return "", e
	}
	final := "0"
	if op.Final {
		final = "1"
	}
	words := []string{strconv.Itoa(op.Kind), strconv.Itoa(op.At), op.Id, op.Auth, op.Issuer, op.Acquirer, strconv.FormatInt(op.Amount, 10), strconv.FormatInt(op.Fee, 10), final}
	return strings.Join(words, "|"), api.OK
}

// Decode returns the operation with this text.
func Decode(s string) (Op, api.Errno) {
	w := strings.Split(s, "|")
	if len(w) != parts {
		return Op{}, api.ErrFormat
	}
	kind, kindOk := text.Number(w[0])
	at, atOk := text.Number(w[1])
	amount, amountOk := text.Number(w[6])
	fee, feeOk := text.Number(w[7])
	if !kindOk || !atOk || !amountOk || !feeOk || w[8] != "0" && w[8] != "1" {
		return Op{}, api.ErrFormat
	}
	op := Op{Kind: int(kind), At: int(at), Id: w[2], Auth: w[3], Issuer: w[4], Acquirer: w[5], Amount: amount, Fee: fee, Final: w[8] == "1"}
	if e := check(op); e != api.OK {
		return Op{}, e
	}
	return op, api.OK
}
