// Package hex is layer 1: see shared/doc/01-hex.md.
package hex

import "tidewaiter/api"

// digits are all of them, each at the place that is its number.
const digits = "0123456789abcdef"

// Put are the digits of bytes.
func Put(b []byte) string {
	out := make([]byte, 0, 2*len(b))
	for _, c := range b {
		two := pair(c)
		out = append(out, two[0], two[1])
	}
	return string(out)
}

// Get are the bytes whose digits a text is.
func Get(s string) ([]byte, api.Errno) {
	if len(s) > api.MaxBytes {
		return nil, api.ErrMany
	}
	b := make([]byte, 0, len(s)/2)
	great := 0
read:
	for at, c := range s {
		n, is := number(c)
		switch {
		case !is:
			break read
		case at%2 == 0: // digits alone stand ahead, of one byte each: a place tells which of the two it has
			great = n
		default:
			b = append(b, byte(16*great+n))
		}
	}
	// A text that was left early, or has an odd digit at its end, is longer than what was read of it.
	if 2*len(b) != len(s) {
		return nil, api.ErrHex
	}
	return b, api.OK
}

// Is tells whether a text is just n digits.
func Is(s string, n int) bool {
	if len(s) != n {
		return false
	}
	for _, c := range s {
		if _, is := number(c); !is {
			return false
		}
	}
	return true
}

// Digit is the number of a digit.
func Digit(c byte) (int, bool) {
	return number(rune(c))
}

// number takes a rune, not a byte: cut to a byte, one beyond the digits could look like one of them.
func number(c rune) (int, bool) {
	for n, d := range digits {
		if c == d {
			return n, true
		}
	}
	return 0, false
}

// pair are a byte's two digits.
func pair(c byte) [2]byte {
	return [2]byte{digits[c/16], digits[c%16]}
}
