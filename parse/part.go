package parse

import (
	"changeling/api"
	"changeling/sign"
	"changeling/word"
)

// part is one piece of a program as it is read: a word (fixed, name, class, number or quoted; nil behind the last one), or a member of a class (api.Field or api.Method).
type part any

type (
	fixed  string // a sign, or a word of the language itself
	name   string // a NAME, even one that is too long
	class  string // a CLASS, even one that is too long
	number string // its digits
	quoted string // a text, as it runs
)

// Kinds of words, as chapter 2 numbers them.
const (
	lettersWord = 1
	numberWord  = 2
	textWord    = 3
)

// partOf is what w can be in a program.
func partOf(w word.Word) part {
	switch w.Kind {
	case lettersWord:
		return lettersPart(w.Text)
	case numberWord:
		return number(w.Text)
	case textWord:
		return quoted(w.Text)
	}
	return fixed(w.Text)
}

// lettersPart asks only for as much of s as a name may have: what is too long is told where it is read, and no word of the language is.
func lettersPart(s string) part {
	start := s[:min(len(s), api.MaxName)]
	if sign.Name(start) {
		return name(s)
	}
	if sign.Class(start) {
		return class(s)
	}
	return fixed(s)
}
