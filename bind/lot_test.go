package bind_test

import (
	"maps"
	"math/rand"
	"slices"
	"strconv"

	"changeling/api"
	"changeling/kin"
	"changeling/method"
	"changeling/over"
	"changeling/tree"
	"changeling/typing"
)

// lot makes programs by lot, the same ones from the same seed.
type lot struct{ *rand.Rand }

func newLot(seed int64) lot { return lot{rand.New(rand.NewSource(seed))} }

// from is one of those.
func from[T any](l lot, of ...T) T { return of[l.Intn(len(of))] }

// once tells whether something is to be, which is one time in n.
func (l lot) once(n int) bool { return l.Intn(n) == 0 }

// program is one of some classes with Inits and Bodies, in which nothing is wrong, but now and then.
func (l lot) program() api.Program {
	own := []string{"A", "B", "C", "D"}[:1+l.Intn(4)]
	types := slices.Concat(own, own, []string{"int", "int", "boolean", "String", "Exception", "E"})
	var p api.Program
	for i, s := range own {
		c := api.Class{Name: s, Fields: l.fields(types)}
		if i > 0 && !l.once(3) {
			c.Super = from(l, own[:i]...)
		}
		for range l.Intn(6) {
			c.Methods = append(c.Methods, l.method(types))
		}
		if l.once(2) {
			c.Methods = append(c.Methods, api.Method{Static: true, Type: "void", Name: "t"})
		}
		p.Classes = append(p.Classes, c)
	}
	p.Classes = append(p.Classes, api.Class{Name: "E", Super: from(l, "Exception", "ZeroFault", "NullFault"), Methods: []api.Method{{Ctor: true}}})
	l.Shuffle(len(p.Classes), func(i, j int) { p.Classes[i], p.Classes[j] = p.Classes[j], p.Classes[i] })
	mend(p)
	for i := range p.Classes {
		c := &p.Classes[i]
		if _, code := over.New(p, c.Super, nil); code != api.OK && c.Super != "" && !l.once(20) {
			c.Methods = append(c.Methods, api.Method{Ctor: true, Params: []api.Param{{Type: "String", Name: "c"}, {Type: "String", Name: "d"}, {Type: "String", Name: "e"}}})
		}
	}
	for i := range p.Classes {
		l.fill(p, &p.Classes[i])
	}
	return p
}

func (l lot) fields(types []string) []api.Field {
	var fields []api.Field
	for _, name := range []string{"x", "y", "z"} {
		if l.once(2) {
			fields = append(fields, api.Field{Static: l.once(3), Type: from(l, types...), Name: name})
		}
	}
	return fields
}

func (l lot) method(types []string) api.Method {
	m := api.Method{Static: l.once(3), Type: from(l, append(types, "void", "void")...), Name: from(l, "f", "f", "g", "h")}
	if l.once(3) {
		m = api.Method{Ctor: true}
	}
	for i := range from(l, 0, 1, 1, 2, 2) {
		m.Params = append(m.Params, api.Param{Type: from(l, types...), Name: "a" + strconv.Itoa(i)})
	}
	return m
}

// mend takes methods from p until none is wrong.
func mend(p api.Program) {
	for {
		code, at := method.Check(p)
		if code == api.OK || code == api.ErrArg || len(p.Classes[at].Methods) == 0 {
			return
		}
		c := &p.Classes[at]
		c.Methods = c.Methods[:len(c.Methods)-1]
	}
}

// fill writes the Inits and Bodies of the class c.
func (l lot) fill(p api.Program, c *api.Class) {
	for i := range c.Fields {
		f := &c.Fields[i]
		if l.once(2) {
			w := l.writer(p, typing.Scope{Class: c.Name, Static: f.Static})
			w.grow(20)
			f.Init = []api.Expr{w.of(f.Type)}
		}
	}
	for i := range c.Methods {
		m := &c.Methods[i]
		w := l.writer(p, typing.Scope{Class: c.Name, Static: m.Static, Vars: slices.Clone(m.Params)})
		w.gives = m.Type
		var start []api.Stmt
		if m.Ctor && c.Super != "" {
			start = w.start(c.Super)
		}
		w.grow(30)
		m.Body = append(start, w.stmts(3)...)
		if m.Type != "void" && !m.Ctor {
			m.Body = append(m.Body, api.Stmt{Kind: api.SReturn, E: []api.Expr{w.of(m.Type)}})
		}
	}
}

// writer writes statements in a scope from expressions that are well typed there.
type writer struct {
	lot
	p      api.Program
	s      typing.Scope
	gives  string
	byType map[string][]api.Expr
}

func (l lot) writer(p api.Program, s typing.Scope) *writer {
	w := &writer{lot: l, p: p, s: s, byType: map[string][]api.Expr{}}
	for i := range 2 {
		w.keep(api.Expr{Kind: api.EInt, Num: int32(i)})
		w.keep(api.Expr{Kind: api.EBool, Num: int32(i)})
		w.keep(api.Expr{Kind: api.EText, Text: from(l, "", "a")})
	}
	w.keep(api.Expr{Kind: api.ENull})
	w.keep(api.Expr{Kind: api.EThis})
	for _, v := range s.Vars {
		w.keep(api.Expr{Kind: api.EName, Name: v.Name})
	}
	for _, name := range []string{"x", "y", "z"} {
		w.keep(api.Expr{Kind: api.EName, Name: name})
		w.keep(api.Expr{Kind: api.ESuperName, Name: name})
	}
	return w
}

// keep keeps e, if it is well typed and not too long.
func (w *writer) keep(e api.Expr) {
	if t, code := typing.Of(w.p, w.s, e); code == api.OK && tree.Expr(e) < 10 {
		w.byType[t] = append(w.byType[t], e)
	}
}

// any is one of all that are kept.
func (w *writer) any() api.Expr {
	types := slices.Sorted(maps.Keys(w.byType))
	return from(w.lot, w.byType[from(w.lot, types...)]...)
}

// grow makes more expressions of those that are there.
func (w *writer) grow(n int) {
	for range n {
		e := api.Expr{Kind: api.EField + w.Intn(api.EUn-api.EField+1)}
		parts := 0
		switch e.Kind {
		case api.EField:
			e.Name, parts = from(w.lot, "x", "y", "z"), 1
		case api.ESuperName, api.EStatic:
			e.Name = from(w.lot, "x", "y", "z")
		case api.ECall:
			e.Name, parts = from(w.lot, "f", "g", "h"), 1+w.Intn(3)
		case api.ESelf, api.ESuperCall, api.EStatCall:
			e.Name, parts = from(w.lot, "f", "g", "h"), w.Intn(3)
		case api.ENew:
			parts = w.Intn(3)
		case api.ECast, api.EIs:
			parts = 1
		case api.EBin:
			e.Name, parts = from(w.lot, "+", "-", "*", "/", "%", "@", "<", "<=", "==", "!=", "&&", "||"), 2
		case api.EUn:
			e.Name, parts = from(w.lot, "-", "!", "#"), 1
		}
		switch e.Kind {
		case api.EStatic, api.EStatCall, api.ENew, api.ECast, api.EIs:
			e.Type = from(w.lot, "A", "B", "C", "D", "E", "ZeroFault")
		}
		for range parts {
			e.L = append(e.L, w.any())
		}
		w.keep(e)
	}
}

// of is an expression that may stand for that type, but now and then.
func (w *writer) of(t string) api.Expr {
	if w.once(1000) {
		return w.any()
	}
	var l []api.Expr
	for _, s := range slices.Sorted(maps.Keys(w.byType)) {
		if kin.Sub(w.p, s, t) {
			l = append(l, w.byType[s]...)
		}
	}
	if len(l) == 0 {
		return w.any()
	}
	return from(w.lot, l...)
}

// kept is one of those kinds, if there is one.
func (w *writer) kept(kinds ...int) (api.Expr, bool) {
	var l []api.Expr
	for _, s := range slices.Sorted(maps.Keys(w.byType)) {
		for _, e := range w.byType[s] {
			if slices.Contains(kinds, e.Kind) {
				l = append(l, e)
			}
		}
	}
	if len(l) == 0 {
		return api.Expr{}, false
	}
	return from(w.lot, l...), true
}

// start is a super( .. ) of one of the constructors there, or nothing.
func (w *writer) start(super string) []api.Stmt {
	l := method.Ctors(w.p, super)
	var args []api.Expr
	w.s.Static = true
	at := w.lot.writer(w.p, w.s)
	w.s.Static = false
	m, _ := method.Get(w.p, from(w.lot, l...))
	for _, q := range m.Params {
		args = append(args, at.of(q.Type))
	}
	if len(args) == 0 && w.once(2) {
		return nil
	}
	return []api.Stmt{{Kind: api.SSuper, E: args}}
}

// stmts are some statements, that many deep at most; the variables among them are gone behind.
func (w *writer) stmts(deep int) []api.Stmt {
	vars, kept := slices.Clone(w.s.Vars), maps.Clone(w.byType)
	var l []api.Stmt
	for range w.Intn(5) {
		l = append(l, w.stmt(deep))
	}
	w.s.Vars, w.byType = vars, kept
	return l
}

// within is what stands in a statement, with such a variable there.
func (w *writer) within(deep int, with ...api.Param) []api.Stmt {
	if deep == 0 {
		return nil
	}
	vars, kept := slices.Clone(w.s.Vars), maps.Clone(w.byType)
	w.s.Vars = append(w.s.Vars, with...)
	for _, v := range with {
		w.keep(api.Expr{Kind: api.EName, Name: v.Name})
	}
	l := w.stmts(deep - 1)
	w.s.Vars, w.byType = vars, kept
	return l
}

// fresh is the name of no variable, but now and then; it may be that of a field.
func (w *writer) fresh() string {
	name := from(w.lot, "u", "v", "w", "o", "q", "r", "x")
	if typing.Var(w.s, name) != "" && !w.once(100) {
		return "b" + strconv.Itoa(len(w.s.Vars))
	}
	return name
}

func (w *writer) stmt(deep int) api.Stmt {
	one := func(kind int, t string) api.Stmt { return api.Stmt{Kind: kind, E: []api.Expr{w.of(t)}} }
	switch kind := 1 + w.Intn(api.STry); kind {
	case api.SVar:
		s := one(kind, from(w.lot, "int", "boolean", "String", "E", "Exception", w.s.Class))
		s.Type, _ = typing.Of(w.p, w.s, s.E[0])
		if !kin.Type(w.p, s.Type) {
			s.Type = "Exception"
		}
		s.Name = w.fresh()
		w.s.Vars = append(w.s.Vars, api.Param{Type: s.Type, Name: s.Name})
		w.keep(api.Expr{Kind: api.EName, Name: s.Name})
		w.grow(5)
		return s
	case api.SAssign:
		if e, is := w.kept(api.EName, api.EField, api.ESuperName, api.EStatic); is {
			t, _ := typing.Of(w.p, w.s, e)
			return api.Stmt{Kind: kind, E: []api.Expr{e, w.of(t)}}
		}
	case api.SExpr:
		if e, is := w.kept(api.ECall, api.ESelf, api.ESuperCall, api.EStatCall, api.ENew); is {
			return api.Stmt{Kind: kind, E: []api.Expr{e}}
		}
	case api.SIf, api.SWhile:
		s := one(kind, "boolean")
		s.A = w.within(deep)
		if kind == api.SIf {
			s.B = w.within(deep)
		}
		return s
	case api.SReturn:
		if w.gives == "void" || w.gives == "" {
			return api.Stmt{Kind: kind}
		}
		return one(kind, w.gives)
	case api.SAssert:
		s := one(kind, "boolean")
		s.Num = int32(w.Intn(10000))
		return s
	case api.SThrow:
		return one(kind, "Exception")
	case api.STry:
		v := api.Param{Type: from(w.lot, "Exception", "E", "ZeroFault", "NullFault"), Name: w.fresh()}
		return api.Stmt{Kind: kind, Type: v.Type, Name: v.Name, A: w.within(deep), B: w.within(deep, v), C: w.within(deep)}
	}
	return one(api.SPrint, from(w.lot, "int", "boolean", "String"))
}

// all are all expressions and statements of p, where they stand, and the lists in which statements stand.
func all(p api.Program) (exprs []*api.Expr, stmts []*api.Stmt, lists []*[]api.Stmt) {
	var ofExprs func(l []api.Expr)
	ofExprs = func(l []api.Expr) {
		for i := range l {
			exprs = append(exprs, &l[i])
			ofExprs(l[i].L)
		}
	}
	var ofStmts func(l *[]api.Stmt)
	ofStmts = func(l *[]api.Stmt) {
		lists = append(lists, l)
		for i := range *l {
			s := &(*l)[i]
			stmts = append(stmts, s)
			ofExprs(s.E)
			for _, a := range []*[]api.Stmt{&s.A, &s.B, &s.C} {
				ofStmts(a)
			}
		}
	}
	for i := range p.Classes {
		c := &p.Classes[i]
		for k := range c.Fields {
			ofExprs(c.Fields[k].Init)
		}
		for k := range c.Methods {
			ofStmts(&c.Methods[k].Body)
		}
	}
	return exprs, stmts, lists
}

// changed is p with one thing changed, which it may be or not.
func (l lot) changed(p api.Program) api.Program {
	p = tree.Bare(p)
	exprs, stmts, lists := all(p)
	if len(exprs) == 0 || len(stmts) == 0 {
		return p
	}
	e, s, body := from(l, exprs...), from(l, stmts...), from(l, lists...)
	types := []string{"A", "B", "C", "D", "E", "None", "Exception", "ZeroFault"}
	switch l.Intn(14) {
	case 11:
		*e = api.Expr{Kind: api.ENull}
	case 10:
		m := from(l, p.Classes...).Methods
		if len(m) > 0 {
			x := &m[l.Intn(len(m))]
			x.Body = x.Body[:max(0, len(x.Body)-1)]
		}
	case 0, 1:
		*e = tree.Bare(api.Program{Classes: []api.Class{{Fields: []api.Field{{Init: []api.Expr{*from(l, exprs...)}}}}}}).Classes[0].Fields[0].Init[0]
	case 2:
		if e.Type != "" || l.once(9) {
			e.Type = from(l, types...)
		}
	case 3:
		if e.Name != "" || l.once(9) {
			e.Name = from(l, "x", "y", "f", "g", "u", "v", "a0", "q", "none")
		}
	case 4:
		if s.Type != "" || l.once(9) {
			s.Type = from(l, types...)
		}
	case 5:
		if s.Name != "" || l.once(9) {
			s.Name = from(l, "x", "u", "v", "w", "a0", "a1", "o", "e")
		}
	case 6:
		if n := len(*body); n > 0 {
			i := l.Intn(n)
			*body = slices.Delete(*body, i, i+1)
		}
	case 7:
		*body = slices.Insert(*body, l.Intn(len(*body)+1), tree.Bare(api.Program{Classes: []api.Class{{Methods: []api.Method{{Body: []api.Stmt{*s}}}}}}).Classes[0].Methods[0].Body[0])
	case 8:
		s.E = append(s.E[:0:0], *e)
	case 9:
		s.Kind = from(l, s.Kind, 1+l.Intn(12))
	default:
		l.changeHead(&p.Classes[l.Intn(len(p.Classes))])
	}
	return p
}

// changeHead changes something of c that is neither in Inits nor in Bodies.
func (l lot) changeHead(c *api.Class) {
	switch l.Intn(7) {
	case 0:
		c.Super = from(l, "", "A", "B", "C", "E", "None", "Exception")
	case 1:
		c.Name = from(l, "A", "B", "E", "Exception", "a", "G")
	case 2:
		if len(c.Fields) > 0 {
			f := &c.Fields[l.Intn(len(c.Fields))]
			f.Static = !f.Static
		}
	case 3:
		if len(c.Fields) > 0 {
			f := &c.Fields[l.Intn(len(c.Fields))]
			f.Type, f.Name = from(l, "int", "A", f.Type, "None"), from(l, "x", "y", f.Name)
		}
	case 4:
		if n := len(c.Methods); n > 0 {
			i := l.Intn(n)
			c.Methods = slices.Delete(c.Methods, i, i+1)
		}
	default:
		if len(c.Methods) > 0 {
			l.changeMethod(&c.Methods[l.Intn(len(c.Methods))])
		}
	}
}

func (l lot) changeMethod(m *api.Method) {
	switch l.Intn(4) {
	case 0:
		m.Static = !m.Static
	case 1:
		m.Type = from(l, "int", "void", "A", "None", "String")
	case 2:
		m.Params = append(m.Params, api.Param{Type: from(l, "int", "B"), Name: from(l, "a0", "b", "u")})
	case 3:
		m.Params = m.Params[:len(m.Params)/2]
	}
}
