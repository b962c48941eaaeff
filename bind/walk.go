package bind

import (
	"slices"

	"changeling/api"
	"changeling/kin"
	"changeling/over"
	"changeling/typing"
)

// walk goes through a member of a class, and binds its expressions where they stand.
// It calls itself for what stands within, which is at most MaxDeep deep.
type walk struct {
	program api.Program
	super   string       // of the class; empty, if it has none
	gives   string       // the type of what a return gives: void, or empty in a constructor, where it gives nothing
	scope   typing.Scope // with the variables that are there
}

// block goes through l, with such variables beside those that are there; what it adds is gone behind it.
func (w *walk) block(l []api.Stmt, with ...api.Param) int {
	there := len(w.scope.Vars)
	w.scope.Vars = append(w.scope.Vars, with...)
	for i := range l {
		if code := w.statement(statementOf(&l[i], w.gives)); code != api.OK {
			return code
		}
	}
	w.scope.Vars = w.scope.Vars[:there]
	return api.OK
}

func (w *walk) statement(x part) int {
	if v, is := x.(variable); is {
		return w.variable(v)
	}
	if a, is := x.(assignment); is {
		return w.assignment(a)
	}
	if q, is := x.(question); is {
		return w.question(q)
	}
	if g, is := x.(guard); is {
		return w.guard(g)
	}
	if s, is := x.(start); is {
		return w.start(s)
	}
	return w.leaving()
}

func (w *walk) variable(v variable) int {
	switch {
	case !kin.Type(w.program, v.Type):
		return api.ErrClass
	case w.has(v.Name):
		return api.ErrTwice
	}
	if code := w.expr(&v.E[0], sub(v.Type)); code != api.OK {
		return code
	}
	w.scope.Vars = append(w.scope.Vars, api.Param{Type: v.Type, Name: v.Name})
	return api.OK
}

func (w *walk) assignment(a assignment) int {
	t, code := w.bind(&a.E[0])
	if code != api.OK {
		return code
	}
	return w.expr(&a.E[1], sub(t))
}

func (w *walk) question(q question) int {
	if code := w.expr(&q.E[0], q.wants); code != api.OK {
		return code
	}
	if code := w.block(q.A); code != api.OK {
		return code
	}
	return w.block(q.B)
}

func (w *walk) leaving() int {
	if w.gives != void && w.gives != "" {
		return api.ErrType
	}
	return api.OK
}

func (w *walk) guard(g guard) int {
	if code := w.block(g.A); code != api.OK {
		return code
	}
	switch {
	case !kin.Type(w.program, g.Type):
		return api.ErrClass
	case !kin.Sub(w.program, g.Type, exception):
		return api.ErrType
	case w.has(g.Name):
		return api.ErrTwice
	}
	if code := w.block(g.B, api.Param{Type: g.Type, Name: g.Name}); code != api.OK {
		return code
	}
	return w.block(g.C)
}

func (w *walk) start(s start) int {
	if w.super == "" {
		return api.ErrClass
	}
	// The object is not there yet while the arguments are made.
	w.scope.Static = true
	var args []string
	for i := range s.E {
		t, code := w.bind(&s.E[i])
		if code != api.OK {
			return code
		}
		args = append(args, t)
	}
	w.scope.Static = false
	to, code := w.above(args)
	s.Nth = to.Nth
	return code
}

// above is the constructor of the Super that arguments of those types mean.
func (w *walk) above(args []string) (api.Target, int) {
	if slices.Contains(args, void) {
		return api.Target{}, api.ErrType
	}
	return over.New(w.program, w.super, args)
}

// has tells whether there is a variable of that name.
func (w *walk) has(name string) bool { return typing.Var(w.scope, name) != "" }

// bind binds e where it stands, and tells its type.
func (w *walk) bind(e *api.Expr) (string, int) {
	x, t, code := typing.Bind(w.program, w.scope, *e)
	*e = x
	return t, code
}

// expr binds e where it stands; its type must be as wanted.
func (w *walk) expr(e *api.Expr, wanted part) int {
	t, code := w.bind(e)
	if code == api.OK && !w.meets(t, wanted) {
		code = api.ErrType
	}
	return code
}

// meets tells whether the type t is as wanted.
func (w *walk) meets(t string, wanted part) bool {
	if of, is := wanted.(sub); is {
		return kin.Sub(w.program, t, string(of))
	}
	if _, is := wanted.(printed); is {
		return t == integer || t == boolean || t == text
	}
	return true
}
