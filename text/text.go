// Package text has the forms of texts that many layers share (rules R6 to R8).
package text

import "strconv"

// Name reports whether s consists of 1 to most letters, digits and underscores, of which the first is a letter.
func Name(s string, most int) bool {
	if s == "" || len(s) > most || !Letter(s[0]) {
		return false
	}
	for i := 0; i < len(s); i++ {
		if !Letter(s[i]) && !Digit(s[i]) && s[i] != '_' {
			return false
		}
	}
	return true
}

// Ident reports whether s consists of 1 to most letters, digits, underscores and hyphens, or bytes of more.
func Ident(s string, most int, more string) bool {
	if s == "" || len(s) > most {
		return false
	}
	for i := 0; i < len(s); i++ {
		c := s[i]
		if !Letter(c) && !Digit(c) && c != '_' && c != '-' && !has(more, c) {
			return false
		}
	}
	return true
}

func has(s string, c byte) bool {
	for i := 0; i < len(s); i++ {
		if s[i] == c {
			return true
		}
	}
	return false
}

// Letter reports whether c is an ASCII letter.
func Letter(c byte) bool { return 'a' <= c && c <= 'z' || 'A' <= c && c <= 'Z' }

// Digit reports whether c is an ASCII digit.
func Digit(c byte) bool { return '0' <= c && c <= '9' }

// Digits reports whether s is not empty and consists of digits.
func Digits(s string) bool {
	for i := 0; i < len(s); i++ {
		if !Digit(s[i]) {
			return false
		}
	}
	return s != ""
}

// LowerHex reports whether s consists of digits and the letters a to f.
func LowerHex(s string) bool {
	for i := 0; i < len(s); i++ {
		if !Digit(s[i]) && (s[i] < 'a' || s[i] > 'f') {
			return false
		}
	}
	return true
}

// Currency reports whether s consists of three capital letters.
func Currency(s string) bool {
	if len(s) != 3 {
		return false
	}
	for i := 0; i < 3; i++ {
		if s[i] < 'A' || s[i] > 'Z' {
			return false
		}
	}
	return true
}

// Number returns the number that s writes in the only form of rule R6; false if s does not have this form.
func Number(s string) (int64, bool) {
	n, err := strconv.ParseInt(s, 10, 64)
	// What prints differently had a sign, zeros or underscores too many.
	if err != nil || strconv.FormatInt(n, 10) != s {
		return 0, false
	}
	return n, true
}

// Padded returns the decimal digits of n, which is not negative, with leading zeros up to a width.
func Padded(n int64, width int) string {
	s := strconv.FormatInt(n, 10)
	for len(s) < width {
		s = "0" + s
	}
	return s
}

// Hex returns the sixteen hexadecimal digits of n, the most significant one first.
func Hex(n uint64) string {
	s := strconv.FormatUint(n, 16)
	for len(s) < 16 {
		s = "0" + s
	}
	return s
}
