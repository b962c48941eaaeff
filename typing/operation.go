package typing

import (
	"slices"

	"changeling/api"
)

func (b binder) operated(o operation) (meaning, int) {
	t := b.made(o)
	if t == "" {
		return meaning{}, api.ErrType
	}
	return meaning{typ: t}, api.OK
}

// made is the type of what an operation makes; the empty one, if it can't be.
func (b binder) made(o operation) string {
	if slices.Contains(o.of, void) {
		return ""
	}
	if len(o.of) == 1 {
		return madeOfOne(o.sign, o.of[0])
	}
	return b.madeOfTwo(o.sign, o.of[0], o.of[1])
}

func madeOfOne(sign, t string) string {
	switch {
	case sign == "-" && t == integer, sign == "#" && t == text:
		return integer
	case sign == "!" && t == boolean:
		return boolean
	}
	return ""
}

func (b binder) madeOfTwo(sign, s, t string) string {
	switch sign {
	case "==", "!=":
		// Two int, two boolean or two String are akin, too: each type is to itself.
		return when(b.akin(s, t), boolean)
	case "&&", "||":
		return when(s == boolean && t == boolean, boolean)
	case "<", "<=":
		return when(s == integer && t == integer, boolean)
	case "@":
		return when(s == text && t == integer, text)
	case "+":
		if joined(s, t) || joined(t, s) {
			return text
		}
	}
	return when(s == integer && t == integer, integer)
}

// when is t, if so.
func when(so bool, t string) string {
	if so {
		return t
	}
	return ""
}

// joined tells whether s is a text, and a t may stand beside it.
func joined(s, t string) bool {
	return s == text && (t == integer || t == boolean || t == text)
}
