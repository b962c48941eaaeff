// Package sign is runes: see DOC.md, chapter 1.
package sign

import (
	"strings"

	"changeling/api"
)

// broken is how range over a string tells a byte that is no UTF-8, and how FFFD stands in a text as itself.
const broken = "\uFFFD"

// Small is chapter 1's.
func Small(r rune) bool { return r >= 'a' && r <= 'z' }

// Big is chapter 1's.
func Big(r rune) bool { return r >= 'A' && r <= 'Z' }

// Digit is chapter 1's.
func Digit(r rune) bool { return r >= '0' && r <= '9' }

// Name is chapter 1's.
func Name(s string) bool { return shaped(s, Small) && !reserved(s) }

// Class is chapter 1's.
func Class(s string) bool { return shaped(s, Big) && s != "String" }

// shaped tells whether s is of 1 to MaxName bytes, a rune that is first, then letters and digits.
func shaped(s string, first func(rune) bool) bool {
	if s == "" || len(s) > api.MaxName {
		return false
	}
	for i, r := range s {
		if i == 0 && !first(r) {
			return false
		}
		if !Small(r) && !Big(r) && !Digit(r) {
			return false
		}
	}
	return true
}

// reserved tells whether s is a word of the language itself.
func reserved(s string) bool {
	switch s {
	case "boolean", "int", "void",
		"class", "extends", "static",
		"new", "this", "super", "null", "true", "false",
		"if", "else", "while", "return", "print", "assert",
		"throw", "try", "catch", "finally",
		"as", "is":
		return true
	}
	return false
}

// Quote is chapter 1's.
func Quote(s string) string {
	var b strings.Builder
	b.WriteByte('"')
	for _, r := range s {
		letter, is := letterOf(r)
		if is {
			b.WriteByte('\\')
		}
		b.WriteRune(letter)
	}
	b.WriteByte('"')
	return b.String()
}

// letterOf is the rune that is written for r, and whether a \ goes ahead of it.
func letterOf(r rune) (rune, bool) {
	switch r {
	case '"', '\\':
		return r, true
	case '\n':
		return 'n', true
	}
	return r, false
}

// Plain is chapter 1's.
func Plain(s string) (string, bool) {
	if Bad(s) >= 0 {
		return "", false
	}
	var b strings.Builder // a copy even where s is plain already: an answer shares nothing with s
	escaped := false
	for _, r := range s {
		if r == '\\' && !escaped {
			escaped = true
			continue
		}
		meant, is := meantBy(r, escaped)
		if !is {
			return "", false
		}
		b.WriteRune(meant)
		escaped = false
	}
	if escaped {
		return "", false
	}
	return b.String(), true
}

// meantBy is the rune for which r is written, behind a \ or not; false, if Quote never writes r there.
func meantBy(r rune, escaped bool) (rune, bool) {
	if escaped && r == 'n' {
		return '\n', true
	}
	_, must := letterOf(r)
	if must != escaped || r == '\n' {
		return 0, false
	}
	return r, true
}

// Bad is chapter 1's.
func Bad(s string) int {
	for i, r := range s {
		if r == '\uFFFD' && !strings.HasPrefix(s[i:], broken) {
			return i
		}
	}
	return -1
}
