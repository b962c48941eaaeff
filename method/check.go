package method

import (
	"slices"

	"changeling/api"
	"changeling/kin"
)

// set is some texts.
type set map[string]struct{}

// add tells whether s was not there yet; then it is.
func (l set) add(s string) bool {
	_, is := l[s]
	l[s] = struct{}{}
	return !is
}

// checker is what is known on the way down through the classes of a program. Members are told by their numbers, class by class, and so are signatures.
type checker struct {
	own     set    // the names of all classes of the program
	members []part // of all classes
	first   []int  // of each class, the number of its first member; behind all, how many members there are
	signs   []int  // of each member, its signature
	seen    []int  // of each signature, the class in which it was last seen, with one more, or 0
	nearest []int  // of each signature, the nearest method on the way that has it, with one more, or 0
	before  []int  // of each method on the way, which one was the nearest ahead of it
}

// codes is what is wrong in each class of p.
// It goes from each class down to those below it, so that what is above a method is at hand: to go up the Chain of each class would take too long where they are very many.
func codes(p api.Program) []int {
	c := checkerOf(p)
	l := make([]int, len(p.Classes))
	for i, entered := range ways(p) {
		if entered {
			l[i] = c.check(i)
			c.enter(i)
		} else {
			c.leave(i)
		}
	}
	return l
}

// checkerOf is one that is on no way yet. It makes each signature once, as it is asked for each time that its class is passed.
func checkerOf(p api.Program) checker {
	all := 0
	for _, k := range p.Classes {
		all += len(k.Methods)
	}
	c := checker{own: make(set, len(p.Classes)), members: make([]part, 0, all), first: make([]int, 0, len(p.Classes)+1), signs: make([]int, 0, all), before: make([]int, all)}
	numbers := make(map[string]int, all)
	buf := make([]byte, 0, 64)
	for i := range p.Classes {
		k := &p.Classes[i]
		c.own.add(k.Name)
		c.first = append(c.first, len(c.members))
		for j := range k.Methods {
			x := memberOf(&k.Methods[j])
			buf = addSignature(buf[:0], x)
			n, is := numbers[string(buf)]
			if !is {
				n = len(numbers)
				numbers[string(buf)] = n
			}
			c.members, c.signs = append(c.members, x), append(c.signs, n)
		}
	}
	c.first = append(c.first, len(c.members))
	c.seen, c.nearest = make([]int, len(numbers)), make([]int, len(numbers))
	return c
}

// check is what is wrong in the class of that number, where the way has come to its Super.
func (c checker) check(class int) int {
	for n := c.first[class]; n < c.first[class+1]; n++ {
		switch {
		case c.again(n, class) || twice(written(c.members[n]).Params):
			return api.ErrTwice
		case !c.typed(c.members[n]):
			return api.ErrClass
		case !c.standsIn(n):
			return api.ErrOver
		}
	}
	return api.OK
}

// again tells whether one ahead of the member n in its class is Same to it.
func (c checker) again(n, class int) bool {
	was := c.seen[c.signs[n]]
	c.seen[c.signs[n]] = class + 1
	return was == class+1
}

// few is up to how many parameters are held against each other, which is quicker than to make a set of them.
const few = 8

// twice tells whether two of those parameters have one Name.
func twice(l []api.Param) bool {
	if len(l) > few {
		seen := make(set, len(l))
		return slices.ContainsFunc(l, func(q api.Param) bool { return !seen.add(q.Name) })
	}
	for i, q := range l {
		if slices.ContainsFunc(l[:i], func(r api.Param) bool { return r.Name == q.Name }) {
			return true
		}
	}
	return false
}

// typed tells whether all Types that are asked of x are there.
func (c checker) typed(x part) bool {
	if r, is := x.(routine); is && r.Type != "void" && !c.known(r.Type) {
		return false
	}
	return !slices.ContainsFunc(written(x).Params, func(q api.Param) bool { return !c.known(q.Type) })
}

// known tells whether t is a Type; kin.Type of the program itself would go over all its classes each time.
func (c checker) known(t string) bool {
	_, is := c.own[t]
	return is || kin.Type(api.Program{}, t)
}

// standsIn tells whether the member n may stand in for the method above it, if there is one.
func (c checker) standsIn(n int) bool {
	r, is := c.members[n].(routine)
	above := c.nearest[c.signs[n]]
	if !is || above == 0 {
		return true
	}
	m := written(c.members[above-1])
	return m.Type == r.Type && m.Static == r.Static
}

// enter lets the way come to the class of that number.
func (c checker) enter(class int) {
	// Backward, for of two that are Same the first one is to be found.
	for n := c.first[class+1] - 1; n >= c.first[class]; n-- {
		if _, is := c.members[n].(routine); is {
			at := &c.nearest[c.signs[n]]
			c.before[n], *at = *at, n+1
		}
	}
}

// leave lets the way go back to the Super of the class of that number.
func (c checker) leave(class int) {
	for n := c.first[class]; n < c.first[class+1]; n++ {
		if _, is := c.members[n].(routine); is {
			c.nearest[c.signs[n]] = c.before[n]
		}
	}
}
