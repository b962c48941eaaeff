package tree

import "changeling/api"

// part is one node of a program: a *api.Class, *api.Field, *api.Method, *api.Stmt or *api.Expr.
type part any

// node is what a part points to.
type node interface {
	api.Class | api.Field | api.Method | api.Stmt | api.Expr
}

// add puts the nodes of a list behind l, as parts.
func add[N node](l []part, nodes []N) []part {
	for i := range nodes {
		l = append(l, &nodes[i])
	}
	return l
}

// addWithin puts what stands right within x behind l, as parts.
func addWithin(l []part, x part) []part {
	if e, is := x.(*api.Expr); is {
		return add(l, e.L)
	}
	if s, is := x.(*api.Stmt); is {
		l = add(l, s.E)
		l = add(l, s.A)
		l = add(l, s.B)
		return add(l, s.C)
	}
	if m, is := x.(*api.Method); is {
		return add(l, m.Body)
	}
	if f, is := x.(*api.Field); is {
		return add(l, f.Init)
	}
	if c, is := x.(*api.Class); is {
		return add(add(l, c.Fields), c.Methods)
	}
	return l
}

// each does something to each part of l, and then to all that stands within it.
// It keeps a list of what is to come, and does not call itself: a tree may be deeper than a stack can be.
func each(l []part, do func(part)) {
	for len(l) > 0 {
		last := len(l) - 1
		x := l[last]
		do(x)
		l = addWithin(l[:last], x)
	}
}

// count is how many nodes l is, with all that stands within.
func count(l []part) int {
	n := 0
	each(l, func(part) { n++ })
	return n
}
