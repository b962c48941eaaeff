package typing

import (
	"math"
	"strings"
	"unicode/utf8"

	"changeling/api"
)

// What follows is chapter 3's, of expressions (3.2), and chapter 1's, of names (1.1): tree and sign are none of the layers that this one may call.

// mayBeRead tells whether e, alone, is as if it had been read.
func mayBeRead(e api.Expr) bool {
	left := api.MaxNodes
	return takes(e, 1, &left)
}

// takes tells whether e, that many deep, may have been read, where that many nodes may still come.
// It stops at the first one that is too many or too deep, so it may call itself.
func takes(e api.Expr, deep int, left *int) bool {
	*left--
	if *left < 0 || deep > api.MaxDeep || !fits(e) {
		return false
	}
	for _, x := range e.L {
		if !takes(x, deep+1, left) {
			return false
		}
	}
	return true
}

// shape is what the parts of an expression may be. As it stands, all are empty.
type shape struct {
	num         int32             // at most
	text        int               // bytes, at most
	name, class func(string) bool // nil: empty
	least, most int               // how many there are in L
}

// shapeOf is the shape that a Kind has; false of what is no Kind.
func shapeOf(kind int) (shape, bool) {
	switch kind {
	case api.EInt:
		return shape{num: math.MaxInt32}, true
	case api.EBool:
		return shape{num: 1}, true
	case api.EText:
		return shape{text: api.MaxText}, true
	case api.ENull, api.EThis:
		return shape{}, true
	case api.EName, api.ESuperName:
		return shape{name: isName}, true
	case api.EField:
		return shape{name: isName, least: 1, most: 1}, true
	case api.EStatic:
		return shape{name: isName, class: isClass}, true
	case api.ECall:
		return shape{name: isName, least: 1, most: math.MaxInt}, true
	case api.ESelf, api.ESuperCall:
		return shape{name: isName, most: math.MaxInt}, true
	case api.EStatCall:
		return shape{name: isName, class: isClass, most: math.MaxInt}, true
	case api.ENew:
		return shape{class: isClass, most: math.MaxInt}, true
	case api.ECast, api.EIs:
		return shape{class: isClass, least: 1, most: 1}, true
	case api.EBin:
		return shape{name: isBinary, least: 2, most: 2}, true
	case api.EUn:
		return shape{name: isUnary, least: 1, most: 1}, true
	}
	return shape{}, false
}

// fits tells whether e has the parts of its Kind, and no others; what those of L are is not asked.
func fits(e api.Expr) bool {
	h, is := shapeOf(e.Kind)
	return is && 0 <= e.Num && e.Num <= h.num &&
		len(e.Text) <= h.text && utf8.ValidString(e.Text) &&
		fitsName(e.Name, h.name) && fitsName(e.Type, h.class) &&
		h.least <= len(e.L) && len(e.L) <= h.most
}

func fitsName(s string, is func(string) bool) bool {
	if is == nil {
		return s == ""
	}
	return is(s)
}

// reserved are the words that are no names, with a blank on either side of each.
const reserved = " boolean int void class extends static new this super null true false if else while return print assert throw try catch finally as is "

func isName(s string) bool {
	return lettered(s, isSmall) && !strings.Contains(reserved, " "+s+" ")
}

func isClass(s string) bool { return lettered(s, isBig) && s != text }

// lettered tells whether s is of 1 to MaxName letters and digits, with such a one first.
func lettered(s string, first func(byte) bool) bool {
	if s == "" || len(s) > api.MaxName || !first(s[0]) {
		return false
	}
	for _, c := range []byte(s) {
		if !isSmall(c) && !isBig(c) && !isDigit(c) {
			return false
		}
	}
	return true
}

func isSmall(c byte) bool { return 'a' <= c && c <= 'z' }

func isBig(c byte) bool { return 'A' <= c && c <= 'Z' }

func isDigit(c byte) bool { return '0' <= c && c <= '9' }

func isBinary(s string) bool {
	switch s {
	case "+", "-", "*", "/", "%", "@", "<", "<=", "==", "!=", "&&", "||":
		return true
	}
	return false
}

func isUnary(s string) bool { return s == "-" || s == "!" || s == "#" }
