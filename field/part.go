package field

import (
	"strings"

	"changeling/api"
	"changeling/kin"
)

// part is a class (a base, or a *api.Class of a program), a *api.Field or a *api.Expr.
type part any

// base is a class that stands in no program: it is without members.
type base struct{}

// sound tells whether kin finds no class of p that is wrong.
func sound(p api.Program) bool {
	code, _ := kin.Check(p)
	return code == api.OK
}

// one is the class of that name; a base, too, of no such class, and where p is not sound.
func one(p api.Program, class string) part {
	if i := kin.Find(p, class); i >= 0 && sound(p) {
		return &p.Classes[i]
	}
	return base{}
}

// line is the classes of the Chain of that class; nothing where p is not sound.
func line(p api.Program, class string) []part {
	if !sound(p) {
		return nil
	}
	chain := kin.Chain(p, class)
	l := make([]part, len(chain))
	at := make(map[string]int, len(chain))
	for i, s := range chain {
		l[i], at[s] = base{}, i
	}
	// One look at all classes, and not one for each of the Chain: both may be very many.
	for i := range p.Classes {
		c := &p.Classes[i]
		if k, is := at[c.Name]; is {
			l[k] = c
		}
	}
	return l
}

// fields are those of the class x itself.
func fields(x part) []api.Field {
	if c, is := x.(*api.Class); is {
		return c.Fields
	}
	return nil
}

// place is that of the first field of that name in the class x itself, or -1.
func place(x part, name string) int {
	for i, f := range fields(x) {
		if f.Name == name {
			return i
		}
	}
	return -1
}

// owner is the name of the class x, in memory of its own.
func owner(x part) string {
	if c, is := x.(*api.Class); is {
		return strings.Clone(c.Name)
	}
	return ""
}
