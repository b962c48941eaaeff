package method

import (
	"iter"

	"changeling/api"
	"changeling/kin"
)

// owner is a class with its methods and constructors; a base one has none.
type owner struct {
	name    string
	methods []api.Method
}

// sound tells whether kin finds no class of p that is wrong.
func sound(p api.Program) bool {
	code, _ := kin.Check(p)
	return code == api.OK
}

// line is the classes of the Chain of that class; nothing where p is not sound.
func line(p api.Program, class string) []owner {
	if !sound(p) {
		return nil
	}
	return owners(p, kin.Chain(p, class))
}

// owners are the classes of those names, in that turn; what is no class of p is taken as a base one.
func owners(p api.Program, names []string) []owner {
	l := make([]owner, len(names))
	at := make(map[string]int, len(names))
	for i, s := range names {
		l[i].name, at[s] = s, i
	}
	// One look at all classes, and not one for each name: both may be very many.
	for i := range p.Classes {
		c := &p.Classes[i]
		if k, is := at[c.Name]; is {
			l[k].methods = c.Methods
		}
	}
	return l
}

// member is the one that t tells; none where p is not sound.
func member(p api.Program, t api.Target) (part, bool) {
	i := kin.Find(p, t.Own)
	if i < 0 || !sound(p) {
		return nil, false
	}
	l := p.Classes[i].Methods
	if t.Nth < 0 || t.Nth >= len(l) {
		return nil, false
	}
	return memberOf(&l[t.Nth]), true
}

// each goes over all members of those classes, with their places.
func each(l []owner) iter.Seq2[api.Target, part] {
	return func(yield func(api.Target, part) bool) {
		for _, o := range l {
			for i := range o.methods {
				if !yield(api.Target{Own: o.name, Nth: i}, memberOf(&o.methods[i])) {
					return
				}
			}
		}
	}
}

// first is where the first member is of which ask is true.
func first(l []owner, ask func(part) bool) (api.Target, bool) {
	for t, x := range each(l) {
		if ask(x) {
			return t, true
		}
	}
	return api.Target{}, false
}

// every is where all members are of which ask is true.
func every(l []owner, ask func(part) bool) []api.Target {
	var all []api.Target
	for t, x := range each(l) {
		if ask(x) {
			all = append(all, t)
		}
	}
	return all
}
