package bind

import (
	"strings"

	"changeling/api"
	"changeling/field"
	"changeling/flow"
	"changeling/kin"
	"changeling/method"
	"changeling/typing"
)

// checkHeads tells the first class of p that is wrong, whatever stands in its Inits and Bodies.
func checkHeads(p api.Program) (int, string) {
	for _, check := range []func(api.Program) (int, int){kin.Check, field.Check, method.Check} {
		if code, nth := check(p); code != api.OK {
			return code, strings.Clone(p.Classes[nth].Name)
		}
	}
	return api.OK, ""
}

// bindClass binds all expressions of c where they stand; c is a class of p, in memory of its own.
func bindClass(p api.Program, c *api.Class) (int, string) {
	for _, x := range membersOf(c) {
		w := walk{program: p, super: c.Super, scope: typing.Scope{Class: c.Name}}
		if code := w.member(x); code != api.OK {
			return code, c.Name + "." + nameOf(x)
		}
	}
	return api.OK, ""
}

func (w *walk) member(x part) int {
	if f, is := x.(*api.Field); is {
		return w.field(f)
	}
	if r, is := x.(routine); is {
		return w.body(r.Method)
	}
	if c, is := x.(ctor); is {
		return w.ctor(c)
	}
	return w.unsaid()
}

func (w *walk) field(f *api.Field) int {
	w.scope.Static = f.Static
	for i := range f.Init {
		if code := w.expr(&f.Init[i], sub(f.Type)); code != api.OK {
			return code
		}
	}
	return api.OK
}

func (w *walk) ctor(c ctor) int {
	if len(c.Body) == 0 || c.Body[0].Kind != api.SSuper {
		if code := w.unsaid(); code != api.OK {
			return code
		}
	}
	return w.body(c.Method)
}

// unsaid looks for the constructor of the Super, if there is one, where no super( .. ) is written.
func (w *walk) unsaid() int {
	if w.super == "" {
		return api.OK
	}
	_, code := w.above(nil)
	return code
}

func (w *walk) body(m *api.Method) int {
	w.scope.Static, w.gives = m.Static, m.Type
	if code := w.block(m.Body, m.Params...); code != api.OK {
		return code
	}
	if !flow.Check(*m) {
		return api.ErrReturn
	}
	return api.OK
}
