package show

import (
	"slices"
	"strings"

	"changeling/api"
)

// part is one piece of what is shown: a string as it is, or what has parts of its own (a margin, a *api.Expr, a line, a *api.Field, a method or a *api.Class).
type part any

// margin is how many blanks stand ahead of something.
type margin int

// widest is the widest margin there is.
const widest = 200

func (m margin) blanks() string { return strings.Repeat(" ", min(max(int(m), 0), widest)) }

// text is all parts of l, one behind the other.
// It keeps a pile of what is to come, and does not call itself: a tree may be deeper than a stack can be.
func text(l ...part) string {
	var b strings.Builder
	pile := pileUp(nil, l)
	for len(pile) > 0 {
		last := len(pile) - 1
		x := pile[last]
		pile = pile[:last]
		if s, is := x.(string); is {
			b.WriteString(s)
		} else {
			pile = pileUp(pile, within(x))
		}
	}
	return b.String()
}

// pileUp puts l on the pile, the first one uppermost.
func pileUp(pile, l []part) []part {
	for _, x := range slices.Backward(l) {
		pile = append(pile, x)
	}
	return pile
}

// within is what x is shown by.
func within(x part) []part {
	if m, is := x.(margin); is {
		return []part{m.blanks()}
	}
	if e, is := x.(*api.Expr); is {
		return exprParts(e)
	}
	if l, is := x.(line); is {
		return l.parts()
	}
	if f, is := x.(*api.Field); is {
		return fieldParts(f)
	}
	if m, is := x.(method); is {
		return m.parts()
	}
	if c, is := x.(*api.Class); is {
		return classParts(c)
	}
	return nil
}
