package method

import (
	"strings"

	"changeling/api"
)

// copied is m in memory of its own, with all that stands within.
// It keeps a list of what is to come, and does not call itself: a Body may be deeper than a stack can be.
func copied(m api.Method) api.Method {
	l := []part{&m}
	for len(l) > 0 {
		last := len(l) - 1
		x := l[last]
		renew(x)
		l = addWithin(l[:last], x)
	}
	return m
}

// renewed is a list like l in memory of its own.
func renewed[T any](l []T) []T { return append([]T(nil), l...) }

// renew gives x texts and lists of its own; what stands in the lists is as it was, but parameters.
func renew(x part) {
	if m, is := x.(*api.Method); is {
		m.Type, m.Name = strings.Clone(m.Type), strings.Clone(m.Name)
		m.Params, m.Body = renewed(m.Params), renewed(m.Body)
		for i, q := range m.Params {
			m.Params[i] = api.Param{Type: strings.Clone(q.Type), Name: strings.Clone(q.Name)}
		}
	}
	if s, is := x.(*api.Stmt); is {
		s.Type, s.Name = strings.Clone(s.Type), strings.Clone(s.Name)
		s.E, s.A, s.B, s.C = renewed(s.E), renewed(s.A), renewed(s.B), renewed(s.C)
	}
	if e, is := x.(*api.Expr); is {
		e.Text, e.Name, e.Type, e.Own = strings.Clone(e.Text), strings.Clone(e.Name), strings.Clone(e.Type), strings.Clone(e.Own)
		e.L = renewed(e.L)
	}
}

// add puts the nodes of a list behind l, as parts.
func add[N api.Stmt | api.Expr](l []part, nodes []N) []part {
	for i := range nodes {
		l = append(l, &nodes[i])
	}
	return l
}

// addWithin puts what stands right within x behind l, as parts.
func addWithin(l []part, x part) []part {
	if m, is := x.(*api.Method); is {
		return add(l, m.Body)
	}
	if s, is := x.(*api.Stmt); is {
		l = add(l, s.E)
		l = add(l, s.A)
		l = add(l, s.B)
		return add(l, s.C)
	}
	if e, is := x.(*api.Expr); is {
		return add(l, e.L)
	}
	return l
}
