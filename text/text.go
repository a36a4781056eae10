// Package text is layer 1: bytes, words, numbers: see shared/doc/01-text.md.
//
// The document speaks of bytes, and the functions go by runes: a byte below 128 is a rune of its own wherever it stands, behind half a rune too, and all other bytes come as runes above 127. So a rune below 128 is just the byte at its place.
package text

import (
	"strconv"
	"strings"
)

// mostDigits keeps a number far from where an int wraps round.
const mostDigits = 9

// Upper is a text in capitals: a to z alone, so that no other byte is changed.
func Upper(s string) string {
	b := []byte(s)
	for i, r := range s {
		if 'a' <= r && r <= 'z' {
			b[i] = byte(r - 'a' + 'A')
		}
	}
	return string(b)
}

// Words is the words of a text. A CR, or a blank of other alphabets, parts none.
func Words(s string) []string {
	var words []string
	start := 0
	for i, r := range s {
		if !isBlank(r) {
			continue
		}
		if start < i {
			words = append(words, s[start:i])
		}
		start = i + 1
	}
	if start < len(s) {
		words = append(words, s[start:])
	}
	return words
}

// Plain tells whether a text can be printed as it is.
func Plain(s string) bool {
	for _, r := range s {
		if r < ' ' || '~' < r {
			return false
		}
	}
	return true
}

// Number is the number that digits are. Noughts ahead are digits like others, and count among the nine.
func Number(s string, most int) (int, bool) {
	if len(s) < 1 || mostDigits < len(s) {
		return 0, false
	}
	n := 0
	for _, r := range s {
		if !isDigit(r) {
			return 0, false
		}
		n = n*10 + int(r-'0')
	}
	if most < n {
		return 0, false
	}
	return n, true
}

// Digits is the digits of a number, of each int there is.
func Digits(n int) string { return strconv.Itoa(n) }

// Has tells whether a text has another one in it, in capitals or not. An empty one stands in each.
func Has(s, part string) bool { return strings.Contains(Upper(s), Upper(part)) }

func isBlank(r rune) bool { return r == ' ' || r == '\t' }

func isDigit(r rune) bool { return '0' <= r && r <= '9' }
