package typing_test

import (
	"math/rand"
	"slices"
	"strconv"

	"changeling/api"
	"changeling/field"
	"changeling/kin"
	"changeling/method"
	"changeling/typing"
)

// lot makes programs, scopes and expressions by lot, the same ones from the same seed.
type lot struct{ *rand.Rand }

func newLot(seed int64) lot { return lot{rand.New(rand.NewSource(seed))} }

// from is one of l.
func from[T any](l lot, of ...T) T { return of[l.Intn(len(of))] }

// once tells whether something is to be, which is one time in n.
func (l lot) once(n int) bool { return l.Intn(n) == 0 }

// classes are the names that a program by lot may have.
func classes() []string { return []string{"A", "B", "C", "D", "E", "F", "G"} }

// program is one in which kin, field and method find nothing wrong, but now and then.
func (l lot) program() api.Program {
	own := classes()[:1+l.Intn(7)]
	types := slices.Concat(own, own, []string{"int", "int", "boolean", "String", "Exception", "ZeroFault"})
	if l.once(200) {
		types = append(types, "None")
	}
	var p api.Program
	for i, s := range own {
		c := api.Class{Name: s, Fields: l.fields(types)}
		if l.Intn(4) > 0 {
			c.Super = from(l, append(own[i+1:], own[min(i+1, len(own)-1)], "ZeroFault")...)
		}
		if c.Super == s {
			c.Super = ""
		}
		for range l.Intn(9) {
			c.Methods = append(c.Methods, l.method(types))
		}
		p.Classes = append(p.Classes, c)
	}
	l.Shuffle(len(p.Classes), func(i, j int) { p.Classes[i], p.Classes[j] = p.Classes[j], p.Classes[i] })
	if !l.once(40) {
		mend(p)
	}
	return p
}

func (l lot) fields(types []string) []api.Field {
	var fields []api.Field
	for _, name := range []string{"x", "y", "z", "a"} {
		if l.once(2) {
			fields = append(fields, api.Field{Static: l.once(3), Type: from(l, types...), Name: name})
		}
	}
	return fields
}

func (l lot) method(types []string) api.Method {
	m := api.Method{Static: l.once(3), Type: from(l, append(types, "void", "void")...), Name: from(l, "f", "f", "f", "g", "h")}
	if l.once(4) {
		m = api.Method{Ctor: true}
	}
	for i := range from(l, 0, 1, 1, 1, 2, 3) {
		m.Params = append(m.Params, api.Param{Type: from(l, types...), Name: "a" + strconv.Itoa(i)})
	}
	return m
}

// mend takes methods from p until none is wrong.
func mend(p api.Program) {
	for {
		code, at := method.Check(p)
		if code == api.OK || code == api.ErrArg || len(p.Classes[at].Methods) == 0 {
			return
		}
		c := &p.Classes[at]
		c.Methods = c.Methods[:len(c.Methods)-1]
	}
}

// sound tells whether p is one that may be asked about.
func sound(p api.Program) bool {
	inKin, _ := kin.Check(p)
	inFields, _ := field.Check(p)
	inMethods, _ := method.Check(p)
	return inKin == 0 && inFields == 0 && inMethods == 0
}

// scope is one of a class of p, but now and then.
func (l lot) scope(p api.Program) typing.Scope {
	s := typing.Scope{Class: from(l, p.Classes...).Name, Static: l.once(3)}
	if l.once(100) {
		s.Class = from(l, "None", "", "Exception", "int")
	}
	for range l.Intn(8) {
		t := from(l, "int", "boolean", "String", "Exception", "ZeroFault", from(l, p.Classes...).Name, from(l, p.Classes...).Name)
		if l.once(20) {
			t = from(l, "void", "null", "None", "")
		}
		s.Vars = append(s.Vars, api.Param{Type: t, Name: from(l, "a", "b", "c", "d", "x")})
	}
	return s
}

// over is an expression of that Kind and of those parts, which have the names of members and classes that are there, but now and then.
func (l lot) over(kind int, parts ...api.Expr) api.Expr {
	e := api.Expr{Kind: kind, L: parts}
	r := rules()[kind]
	switch kind {
	case api.EInt:
		e.Num = int32(l.Intn(3))
	case api.EBool:
		e.Num = int32(l.Intn(2))
	case api.EText:
		e.Text = from(l, "", "a", "\ufffdé")
	case api.EBin:
		e.Name = from(l, append(binaries, "==", "+")...)
	case api.EUn:
		e.Name = from(l, unaries...)
	case api.EName:
		e.Name = from(l, "a", "b", "c", "d", "x", "y", "z")
	case api.EField, api.ESuperName, api.EStatic:
		e.Name = from(l, "x", "y", "z", "a")
	case api.ECall, api.ESelf, api.ESuperCall, api.EStatCall:
		e.Name = from(l, "f", "f", "f", "g", "h")
	}
	if r.refs != nil {
		e.Type = from(l, classes()...)
		if l.once(9) {
			e.Type = from(l, "Exception", "ZeroFault", "None")
		}
	}
	if l.once(9) {
		e.Own, e.Nth = from(l, "A", "", "?"), l.Intn(9)-4
	}
	return e
}

// sizes is of how many parts an expression of that Kind may be, at least and at most.
func sizes(kind int) (int, int) {
	r := rules()[kind]
	return r.least, min(r.most, r.least+3)
}

// anyExpr is an expression at most that many deep, and now and then wrong in its shape.
func (l lot) anyExpr(deep int) api.Expr {
	kind := 1 + l.Intn(18)
	if l.once(200) {
		kind = from(l, 0, -1, 19, 77)
	}
	least, most := sizes(kind)
	if deep == 0 && least > 0 {
		kind, least, most = api.EName, 0, 0
	}
	if deep == 0 {
		most = least
	}
	if l.once(100) {
		most++
	}
	var parts []api.Expr
	for range least + l.Intn(most-least+1) {
		parts = append(parts, l.anyExpr(deep-1))
	}
	e := l.over(kind, parts...)
	switch l.Intn(120) {
	case 0:
		e.Num = from[int32](l, -1, 0, 1, 2)
	case 1:
		e.Text = from(l, "a", "\xff")
	case 2:
		e.Name = from(l, goodNames[0], badNames[0], "", "if", "*")
	case 3:
		e.Type = from(l, goodClasses[0], badClasses[0], "", "String")
	}
	return e
}

// pool is expressions of a program and a scope that are well typed, by their types.
type pool struct {
	lot
	p      api.Program
	s      typing.Scope
	types  []string
	byType map[string][]api.Expr
}

func (l lot) pool(p api.Program, s typing.Scope) *pool {
	return &pool{lot: l, p: p, s: s, byType: map[string][]api.Expr{}}
}

// grow makes one more expression of those in the pool, and now and then of others.
func (w *pool) grow() api.Expr {
	kind := 1 + w.Intn(18)
	switch w.Intn(6) {
	case 0, 1, 2:
		kind = api.EField + w.Intn(api.ENew-api.EField+1)
	case 3:
		kind = api.EBin
	}
	least, most := sizes(kind)
	var parts []api.Expr
	for range least + w.Intn(most-least+1) {
		parts = append(parts, w.part())
	}
	e := w.over(kind, parts...)
	if e.Type != "" && !w.once(5) {
		e.Type = from(w.lot, w.p.Classes...).Name
	}
	return e
}

func (w *pool) part() api.Expr {
	switch {
	case len(w.types) == 0 || w.once(60):
		return w.anyExpr(w.Intn(2))
	case w.once(4):
		return api.Expr{Kind: api.ENull}
	}
	return from(w.lot, w.byType[from(w.lot, w.types...)]...)
}

// keep puts an expression of that type into the pool, if it is not too long.
func (w *pool) keep(e api.Expr, typ string) {
	if size(e) > 60 {
		return
	}
	if !slices.Contains(w.types, typ) {
		w.types = append(w.types, typ)
	}
	w.byType[typ] = append(w.byType[typ], e)
}

func size(e api.Expr) int {
	n := 1
	for _, x := range e.L {
		n += size(x)
	}
	return n
}
