package tree

import (
	"slices"

	"changeling/api"
)

// same tells whether two lists of parts are the same, with all that stands within.
func same(a, b []part) bool {
	if len(a) != len(b) {
		return false
	}
	for len(a) > 0 {
		last := len(a) - 1
		x, y := a[last], b[last]
		if !alike(x, y) {
			return false
		}
		// Those that are alike have as many parts within, so both lists stay of one length.
		a, b = addWithin(a[:last], x), addWithin(b[:last], y)
	}
	return true
}

// alike tells whether x and y are the same but for what stands within, of which they have as much.
func alike(x, y part) bool {
	if a, is := x.(*api.Expr); is {
		b, is := y.(*api.Expr)
		return is && exprsAlike(a, b)
	}
	if a, is := x.(*api.Stmt); is {
		b, is := y.(*api.Stmt)
		return is && stmtsAlike(a, b)
	}
	if a, is := x.(*api.Method); is {
		b, is := y.(*api.Method)
		return is && methodsAlike(a, b)
	}
	if a, is := x.(*api.Field); is {
		b, is := y.(*api.Field)
		return is && fieldsAlike(a, b)
	}
	if a, is := x.(*api.Class); is {
		b, is := y.(*api.Class)
		return is && classesAlike(a, b)
	}
	return false
}

func exprsAlike(a, b *api.Expr) bool {
	return a.Kind == b.Kind && a.Num == b.Num && a.Text == b.Text &&
		a.Name == b.Name && a.Type == b.Type && len(a.L) == len(b.L)
}

func stmtsAlike(a, b *api.Stmt) bool {
	return a.Kind == b.Kind && a.Num == b.Num &&
		a.Type == b.Type && a.Name == b.Name && len(a.E) == len(b.E) &&
		len(a.A) == len(b.A) && len(a.B) == len(b.B) && len(a.C) == len(b.C)
}

func methodsAlike(a, b *api.Method) bool {
	return a.Static == b.Static && a.Ctor == b.Ctor &&
		a.Type == b.Type && a.Name == b.Name &&
		slices.Equal(a.Params, b.Params) && len(a.Body) == len(b.Body)
}

func fieldsAlike(a, b *api.Field) bool {
	return a.Static == b.Static && a.Type == b.Type && a.Name == b.Name && len(a.Init) == len(b.Init)
}

func classesAlike(a, b *api.Class) bool {
	return a.Name == b.Name && a.Super == b.Super &&
		len(a.Fields) == len(b.Fields) && len(a.Methods) == len(b.Methods)
}
