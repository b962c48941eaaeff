package over

import (
	"slices"

	"changeling/api"
	"changeling/kin"
)

// candidate is a method or constructor that may be the one that is meant.
type candidate struct {
	at     api.Target
	params []api.Param
}

// candidates are those that l tells and that have n parameters, in its turn.
func candidates(p api.Program, l []api.Target, n int) []candidate {
	own := members(p, l)
	var all []candidate
	for _, t := range l {
		c := candidate{at: t}
		switch of := own[t.Own]; {
		case t.Nth >= 0 && t.Nth < len(of):
			c.params = of[t.Nth].Params
		case t.Nth != -1:
			continue
		}
		if len(c.params) == n {
			all = append(all, c)
		}
	}
	return all
}

// members are the methods and constructors of the classes that l tells; none where kin finds a class of p that is wrong.
// Those are what method.Get tells, but for its copies, which would be made of each Body that no one asks for.
func members(p api.Program, l []api.Target) map[string][]api.Method {
	if code, _ := kin.Check(p); code != api.OK {
		return nil
	}
	own := make(map[string][]api.Method)
	for _, t := range l {
		own[t.Own] = nil
	}
	for _, c := range p.Classes {
		if _, is := own[c.Name]; is {
			own[c.Name] = c.Methods
		}
	}
	return own
}

// kept are those of l of which ask is true, in a list of their own.
func kept[T any](l []T, ask func(T) bool) []T {
	var some []T
	for _, x := range l {
		if ask(x) {
			some = append(some, x)
		}
	}
	return some
}

// fitting are those of l, which have as many parameters as there are args, that Fit.
func fitting(p api.Program, l []candidate, args []string) []candidate {
	for i := 0; i < len(args) && len(l) > 0; i++ {
		x := partOf(p, args[i])
		l = kept(l, func(c candidate) bool { return stands(x, c.params[i].Type) })
	}
	return l
}

// aboveAll are those of l, all of which Fit n arguments, that are Above all of them.
// For that one's Types need only be held against the Types that are in each place, and not against those of each other one.
func aboveAll(p api.Program, l []candidate, n int) []candidate {
	top := l
	for i := 0; i < n && len(top) > 0; i++ {
		there := column(l, i)
		if len(there) == 1 {
			continue
		}
		low := lowest(p, there)
		top = kept(top, func(c candidate) bool { return slices.Contains(low, c.params[i].Type) })
	}
	return top
}

// column is the Types that the parameters of l have in that place, each of them once.
func column(l []candidate, place int) []string {
	seen := set{}
	var types []string
	for _, c := range l {
		t := c.params[place].Type
		if !seen.has(t) {
			seen.add(t)
			types = append(types, t)
		}
	}
	return types
}

// lowest are those of two or more types that may stand for each of them.
// There may be two of them: a class may have null's name, and null and a class below that one stand for each other.
func lowest(p api.Program, types []string) []string {
	classes := kept(types, func(t string) bool { return t != null })
	low := []string{deepest(p, classes)}
	if len(classes) < len(types) {
		low = append(low, null)
	}
	return kept(low, func(t string) bool {
		x := partOf(p, t)
		return !slices.ContainsFunc(types, func(u string) bool { return !stands(x, u) })
	})
}

// deepest is the one of types, none of which is null, that may stand for each of them; any of them, if there is none.
// One from the middle leaves only those that are below it, so that a few looks are enough where the types come in their order up or down.
func deepest(p api.Program, types []string) string {
	t := types[len(types)/2]
	for rest := types; len(rest) > 0; {
		next := rest[len(rest)/2]
		x := partOf(p, next)
		if !stands(x, t) {
			break
		}
		t = next
		rest = kept(rest, func(u string) bool { return !stands(x, u) })
	}
	return t
}
