package field

import (
	"strings"

	"changeling/api"
)

// copied is f in memory of its own, with all that stands within.
// It keeps a list of what is to come, and does not call itself: an Init may be deeper than a stack can be.
func copied(f api.Field) api.Field {
	l := []part{&f}
	for len(l) > 0 {
		last := len(l) - 1
		x := l[last]
		renew(x)
		l = addWithin(l[:last], x)
	}
	return f
}

// renew gives x texts and a list of its own; what stands in the list is as it was.
func renew(x part) {
	if f, is := x.(*api.Field); is {
		f.Type, f.Name = strings.Clone(f.Type), strings.Clone(f.Name)
		f.Init = append([]api.Expr(nil), f.Init...)
	}
	if e, is := x.(*api.Expr); is {
		e.Text, e.Name, e.Type, e.Own = strings.Clone(e.Text), strings.Clone(e.Name), strings.Clone(e.Type), strings.Clone(e.Own)
		e.L = append([]api.Expr(nil), e.L...)
	}
}

// addWithin puts what stands right within x behind l, as parts.
func addWithin(l []part, x part) []part {
	if f, is := x.(*api.Field); is {
		return addExprs(l, f.Init)
	}
	if e, is := x.(*api.Expr); is {
		return addExprs(l, e.L)
	}
	return l
}

func addExprs(l []part, exprs []api.Expr) []part {
	for i := range exprs {
		l = append(l, &exprs[i])
	}
	return l
}
