package typing

import (
	"slices"
	"strings"

	"changeling/api"
	"changeling/field"
	"changeling/kin"
	"changeling/method"
	"changeling/over"
)

// binder binds expressions that stand in a program, in a scope.
type binder struct {
	program api.Program
	scope   Scope
}

// meaning is the type of an expression, and the member that it is bound to, if to one.
type meaning struct {
	typ string
	to  api.Target
}

// sound tells whether expressions may be asked about in p and s.
// That of kin.Check goes without asking: what it refuses, field.Check refuses, too.
func sound(p api.Program, s Scope) bool {
	if kin.Find(p, s.Class) < 0 {
		return false
	}
	inFields, _ := field.Check(p)
	inMethods, _ := method.Check(p)
	return inFields == api.OK && inMethods == api.OK
}

// bind is e with all its parts bound, in memory of its own, and its type; or an error.
// It calls itself, for e is at most MaxDeep deep.
func (b binder) bind(e api.Expr) (api.Expr, string, int) {
	var l []api.Expr
	var types []string
	for _, x := range e.L {
		y, t, code := b.bind(x)
		if code != api.OK {
			return api.Expr{}, "", code
		}
		l, types = append(l, y), append(types, t)
	}
	m, code := b.meant(b.partOf(e, types))
	if code != api.OK {
		return api.Expr{}, "", code
	}
	return api.Expr{
		Kind: e.Kind,
		Num:  e.Num,
		Text: strings.Clone(e.Text),
		Name: strings.Clone(e.Name),
		Type: strings.Clone(e.Type),
		L:    l,
		Own:  m.to.Own,
		Nth:  m.to.Nth,
	}, m.typ, api.OK
}

// meant is what x means; or an error.
func (b binder) meant(x part) (meaning, int) {
	if t, is := x.(plain); is {
		return meaning{typ: string(t)}, api.OK
	}
	if _, is := x.(this); is {
		return b.self()
	}
	if u, is := x.(use); is {
		return b.used(u)
	}
	if c, is := x.(call); is {
		return b.called(c)
	}
	if c, is := x.(creation); is {
		return b.created(c)
	}
	if l, is := x.(look); is {
		return b.looked(l)
	}
	if o, is := x.(operation); is {
		return b.operated(o)
	}
	return meaning{}, api.ErrArg
}

func (b binder) self() (meaning, int) {
	if b.scope.Static {
		return meaning{}, api.ErrStatic
	}
	return meaning{typ: b.scope.Class}, api.OK
}

func (b binder) used(u use) (meaning, int) {
	in, code := b.place(u.from)
	if code != api.OK {
		return meaning{}, code
	}
	to, is := field.Find(b.program, in, u.name)
	if !is {
		return meaning{}, api.ErrName
	}
	f := b.classAt(to).Fields[to.Nth]
	if !b.reaches(u.from, f.Static) {
		return meaning{}, api.ErrStatic
	}
	return meaning{f.Type, to}, api.OK
}

func (b binder) called(c call) (meaning, int) {
	in, code := b.place(c.from)
	if code != api.OK {
		return meaning{}, code
	}
	if slices.Contains(c.args, void) {
		return meaning{}, api.ErrType
	}
	to, code := over.Call(b.program, in, c.name, c.args)
	if code != api.OK {
		return meaning{}, code
	}
	m := b.classAt(to).Methods[to.Nth]
	if !b.reaches(c.from, m.Static) {
		return meaning{}, api.ErrStatic
	}
	return meaning{m.Type, to}, api.OK
}

func (b binder) created(c creation) (meaning, int) {
	if !b.hasClass(c.class) {
		return meaning{}, api.ErrClass
	}
	if slices.Contains(c.args, void) {
		return meaning{}, api.ErrType
	}
	to, code := over.New(b.program, c.class, c.args)
	if code != api.OK {
		return meaning{}, code
	}
	return meaning{c.class, to}, api.OK
}

func (b binder) looked(l look) (meaning, int) {
	switch {
	case !b.hasClass(l.class):
		return meaning{}, api.ErrClass
	case l.of != null && !b.hasClass(l.of):
		return meaning{}, api.ErrType
	case !b.akin(l.of, l.class):
		return meaning{}, api.ErrCast
	}
	return meaning{typ: l.answer}, api.OK
}

// place is the class in which a member is sought.
func (b binder) place(from part) (string, int) {
	if t, is := from.(value); is {
		return b.classOr(string(t), api.ErrType)
	}
	if c, is := from.(class); is {
		return b.classOr(string(c), api.ErrClass)
	}
	if _, is := from.(above); is {
		return b.super()
	}
	return b.scope.Class, api.OK
}

// classOr is the class of that name, or that error where there is none.
func (b binder) classOr(name string, code int) (string, int) {
	if !b.hasClass(name) {
		return "", code
	}
	return name, api.OK
}

func (b binder) super() (string, int) {
	if b.scope.Static {
		return "", api.ErrStatic
	}
	super := kin.Super(b.program, b.scope.Class)
	if super == "" {
		return "", api.ErrClass
	}
	return super, api.OK
}

// reaches tells whether a member that was sought there may be meant, as it is Static, or is not.
func (b binder) reaches(from part, static bool) bool {
	if _, is := from.(class); is {
		return static
	}
	if _, is := from.(here); is {
		return static || !b.scope.Static
	}
	return !static
}

// hasClass tells whether there is a class of that name, a base one or one of the program.
func (b binder) hasClass(name string) bool {
	return kin.Base(name) || kin.Find(b.program, name) >= 0
}

// classAt is the class that declares a member that was found. field.Get and method.Get would copy all that stands within the member.
func (b binder) classAt(to api.Target) api.Class {
	return b.program.Classes[kin.Find(b.program, to.Own)]
}

// akin tells whether a value of one of the two types may be one of the other.
func (b binder) akin(s, t string) bool {
	return kin.Sub(b.program, s, t) || kin.Sub(b.program, t, s)
}
