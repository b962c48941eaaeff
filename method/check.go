package method

import (
	"slices"

	"changeling/api"
	"changeling/kin"
)

// set is some texts.
type set map[string]struct{}

// add tells whether s was not there yet; then it is.
func (l set) add(s string) bool {
	_, is := l[s]
	l[s] = struct{}{}
	return !is
}

// checker is what is known on the way down through the classes of a program.
type checker struct {
	own  set                      // the names of all classes of the program
	open map[string][]*api.Method // by their signatures, the methods of the classes on the way, the nearest one last
}

// codes is what is wrong in each class of p.
// It goes from each class down to those below it, so that what is above a method is at hand: to go up the Chain of each class would take too long where they are very many.
func codes(p api.Program) []int {
	c := checker{own: make(set, len(p.Classes)), open: map[string][]*api.Method{}}
	for _, x := range p.Classes {
		c.own.add(x.Name)
	}
	l := make([]int, len(p.Classes))
	for i, entered := range ways(p) {
		members := membersOf(&p.Classes[i])
		if entered {
			l[i] = c.check(members)
			c.enter(members)
		} else {
			c.leave(members)
		}
	}
	return l
}

// membersOf is the members of c, by their places.
func membersOf(c *api.Class) []part {
	l := make([]part, len(c.Methods))
	for i := range c.Methods {
		l[i] = memberOf(&c.Methods[i])
	}
	return l
}

// check is what is wrong in a class with those members, where the way has come to its Super.
func (c checker) check(members []part) int {
	seen := make(set, len(members))
	for _, x := range members {
		m := written(x)
		switch {
		case !seen.add(signature(x)) || twice(m.Params):
			return api.ErrTwice
		case !c.typed(x):
			return api.ErrClass
		case !c.standsIn(x):
			return api.ErrOver
		}
	}
	return api.OK
}

// twice tells whether two of those parameters have one Name.
func twice(l []api.Param) bool {
	seen := make(set, len(l))
	return slices.ContainsFunc(l, func(q api.Param) bool { return !seen.add(q.Name) })
}

// typed tells whether all Types that are asked of x are there.
func (c checker) typed(x part) bool {
	if r, is := x.(routine); is && r.Type != "void" && !c.known(r.Type) {
		return false
	}
	return !slices.ContainsFunc(written(x).Params, func(q api.Param) bool { return !c.known(q.Type) })
}

// known tells whether t is a Type; kin.Type of the program itself would go over all its classes each time.
func (c checker) known(t string) bool {
	_, is := c.own[t]
	return is || kin.Type(api.Program{}, t)
}

// standsIn tells whether x may stand in for the method above it, if there is one.
func (c checker) standsIn(x part) bool {
	r, is := x.(routine)
	if !is {
		return true
	}
	l := c.open[signature(x)]
	if len(l) == 0 {
		return true
	}
	above := l[len(l)-1]
	return above.Type == r.Type && above.Static == r.Static
}

// enter lets the way come to the class with those members.
func (c checker) enter(members []part) {
	// Backward, for of two that are Same the first one is to be found.
	for _, x := range slices.Backward(members) {
		if r, is := x.(routine); is {
			s := signature(x)
			c.open[s] = append(c.open[s], r.Method)
		}
	}
}

// leave lets the way go back to the Super of the class with those members.
func (c checker) leave(members []part) {
	for _, x := range members {
		if _, is := x.(routine); is {
			s := signature(x)
			c.open[s] = c.open[s][:len(c.open[s])-1]
		}
	}
}
