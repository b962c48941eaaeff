package over

import (
	"changeling/api"
	"changeling/kin"
)

// null is the type of null.
const null = "null"

// set is some texts.
type set map[string]struct{}

func (l set) add(s string) { l[s] = struct{}{} }

func (l set) has(s string) bool {
	_, is := l[s]
	return is
}

// part is all types for which one type may stand: a line, or, of null, an every.
// So kin need not be asked again, class by class, for each of very many parameters.
type part any

// line is a type and the classes above it; nothing of what is no type.
type line struct{ set }

// every is null and all classes; those that are no base ones stand in the set.
type every struct{ set }

func partOf(p api.Program, t string) part {
	l := set{}
	if t == null {
		for _, c := range p.Classes {
			l.add(c.Name)
		}
		return every{l}
	}
	if kin.Type(p, t) {
		l.add(t)
	}
	for _, s := range kin.Chain(p, t) {
		l.add(s)
	}
	return line{l}
}

// stands tells whether the type whose part is x may stand for t.
func stands(x part, t string) bool {
	if l, is := x.(line); is {
		return l.has(t)
	}
	if e, is := x.(every); is {
		return t == null || e.has(t) || kin.Base(t)
	}
	return false
}
