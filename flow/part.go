package flow

import "changeling/api"

// part is a statement by what it takes to pass it: plain, stop, either or guarded. What stands within is told by the numbers of lists.
type part any

type plain struct{} // nothing

type stop struct{} // can't be passed

type either struct{ a, b int } // the end of one of the two

type guarded struct { // of one of the two, and then that of c
	either
	c int
}

// endless tells whether a while with that E never asks anything that might be false.
func endless(e []api.Expr) bool {
	return len(e) > 0 && e[0].Kind == api.EBool && e[0].Num == 1
}

// needs are the lists on whose ends it hangs whether x is passed.
func needs(x part) []int {
	if e, is := x.(either); is {
		return []int{e.a, e.b}
	}
	if g, is := x.(guarded); is {
		return []int{g.a, g.b, g.c}
	}
	return nil
}
