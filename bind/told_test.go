package bind_test

import (
	"reflect"
	"slices"
	"testing"

	"changeling/api"
	"changeling/bind"
	"changeling/field"
	"changeling/flow"
	"changeling/kin"
	"changeling/method"
	"changeling/over"
	"changeling/tree"
	"changeling/typing"
)

// What follows tells chapter 12 once more, as near to its words as can be.

// asked is an expression of a program, and the scope in which typing is asked about it; or (with a Super) the constructor that a super( .. ) means.
type asked struct {
	of    api.Expr
	in    typing.Scope
	super int
}

// teller tells of a class of p.
type teller struct {
	p     api.Program
	c     api.Class
	where string
	all   *[]asked
}

// bad is an error that is told.
type bad struct {
	code  int
	where string
}

// must ends with that error, unless it is so.
func (d teller) must(so bool, code int) {
	if !so {
		panic(bad{code, d.where})
	}
}

// toldProgram is the error of p and where it is; without an error, all its expressions, in their turn.
func toldProgram(p api.Program) (all []asked, code int, where string) {
	defer func() {
		if r := recover(); r != nil {
			b := r.(bad)
			all, code, where = nil, b.code, b.where
		}
	}()
	d := teller{p: p, all: &all}
	d.must(tree.May(p), api.ErrArg)
	for _, check := range []func(api.Program) (int, int){kin.Check, field.Check, method.Check} {
		if code, nth := check(p); code != 0 {
			d.where = p.Classes[nth].Name
			d.must(false, code)
		}
	}
	for _, c := range p.Classes {
		d.c = c
		d.class()
	}
	return all, 0, ""
}

func (d teller) class() {
	for _, f := range d.c.Fields {
		d.where = d.c.Name + "." + f.Name
		for _, e := range f.Init {
			t := d.typ(e, typing.Scope{Class: d.c.Name, Static: f.Static})
			d.must(kin.Sub(d.p, t, f.Type), api.ErrType)
		}
	}
	for _, m := range d.c.Methods {
		d.where = d.c.Name + "." + m.Name
		if m.Ctor {
			d.where = d.c.Name + ".new"
			if d.c.Super != "" && (len(m.Body) == 0 || m.Body[0].Kind != api.SSuper) {
				_, code := over.New(d.p, d.c.Super, nil)
				d.must(code == 0, code)
			}
		}
		d.list(m.Body, m, m.Params)
		d.must(flow.Check(m), api.ErrReturn)
	}
	d.where = d.c.Name + ".new"
	if d.c.Super != "" && !slices.ContainsFunc(d.c.Methods, func(m api.Method) bool { return m.Ctor }) {
		_, code := over.New(d.p, d.c.Super, nil)
		d.must(code == 0, code)
	}
}

// typ is the type of e there.
func (d teller) typ(e api.Expr, s typing.Scope) string {
	s.Vars = slices.Clone(s.Vars)
	t, code := typing.Of(d.p, s, e)
	d.must(code == 0, code)
	*d.all = append(*d.all, asked{of: e, in: s})
	return t
}

// list tells of statements that stand behind one another, where those variables are there.
func (d teller) list(l []api.Stmt, m api.Method, vars []api.Param) {
	if len(l) == 0 {
		return
	}
	d.list(l[1:], m, d.one(l[0], m, vars))
}

// one tells of one statement, and of the variables that are there behind it.
func (d teller) one(s api.Stmt, m api.Method, vars []api.Param) []api.Param {
	in := typing.Scope{Class: d.c.Name, Static: m.Static, Vars: vars}
	isVar := func(name string) bool {
		return slices.ContainsFunc(vars, func(v api.Param) bool { return v.Name == name })
	}
	switch s.Kind {
	case api.SVar:
		d.must(kin.Type(d.p, s.Type), api.ErrClass)
		d.must(!isVar(s.Name), api.ErrTwice)
		d.must(kin.Sub(d.p, d.typ(s.E[0], in), s.Type), api.ErrType)
		return append(slices.Clone(vars), api.Param{Type: s.Type, Name: s.Name})
	case api.SAssign:
		left, right := d.typ(s.E[0], in), d.typ(s.E[1], in)
		d.must(kin.Sub(d.p, right, left), api.ErrType)
	case api.SExpr:
		d.typ(s.E[0], in)
	case api.SIf, api.SWhile:
		d.must(d.typ(s.E[0], in) == "boolean", api.ErrType)
		d.list(s.A, m, vars)
		d.list(s.B, m, vars)
	case api.SReturn:
		if len(s.E) == 0 {
			d.must(m.Ctor || m.Type == "void", api.ErrType)
			break
		}
		t := d.typ(s.E[0], in)
		d.must(m.Type != "void" && !m.Ctor && kin.Sub(d.p, t, m.Type), api.ErrType)
	case api.SPrint:
		d.must(slices.Contains([]string{"int", "boolean", "String"}, d.typ(s.E[0], in)), api.ErrType)
	case api.SAssert:
		d.must(d.typ(s.E[0], in) == "boolean", api.ErrType)
	case api.SThrow:
		t := d.typ(s.E[0], in)
		d.must(t == "null" || kin.Sub(d.p, t, "Exception"), api.ErrType)
	case api.STry:
		d.list(s.A, m, vars)
		d.must(len(kin.Chain(d.p, s.Type)) > 0, api.ErrClass)
		d.must(kin.Sub(d.p, s.Type, "Exception"), api.ErrType)
		d.must(!isVar(s.Name), api.ErrTwice)
		d.list(s.B, m, append(slices.Clone(vars), api.Param{Type: s.Type, Name: s.Name}))
		d.list(s.C, m, vars)
	case api.SSuper:
		d.super(s, in)
	}
	return vars
}

func (d teller) super(s api.Stmt, in typing.Scope) {
	d.must(d.c.Super != "", api.ErrClass)
	in.Static = true
	var args []string
	for _, e := range s.E {
		args = append(args, d.typ(e, in))
	}
	d.must(!slices.Contains(args, "void"), api.ErrType)
	at, code := over.New(d.p, d.c.Super, args)
	d.must(code == 0, code)
	d.must(at.Own == d.c.Super, -1)
	*d.all = append(*d.all, asked{super: at.Nth, in: in})
}

// found is what of p is asked about, in its turn, as it is bound there.
func found(p api.Program) []asked {
	var l []asked
	var add func(stmts []api.Stmt)
	add = func(stmts []api.Stmt) {
		for _, s := range stmts {
			if s.Kind == api.SSuper {
				for _, e := range s.E {
					l = append(l, asked{of: e})
				}
				l = append(l, asked{super: s.Nth})
				continue
			}
			for _, e := range s.E {
				l = append(l, asked{of: e})
			}
			add(s.A)
			add(s.B)
			add(s.C)
		}
	}
	for _, c := range p.Classes {
		for _, f := range c.Fields {
			for _, e := range f.Init {
				l = append(l, asked{of: e})
			}
		}
		for _, m := range c.Methods {
			add(m.Body)
		}
	}
	return l
}

// hold holds all answers of p against what is told of it here; it tells the code.
func hold(t *testing.T, p api.Program) int {
	t.Helper()
	all, code, where := toldProgram(p)
	if got := ask(t, p); got != told(code, where) {
		t.Fatalf("%v is %s, not %s", p, got, told(code, where))
	}
	if code != 0 {
		return code
	}
	b, _, _ := bind.Program(p)
	l := found(b)
	if len(l) != len(all) {
		t.Fatalf("%v is bound as %v", p, b)
	}
	for i, a := range all {
		want, _, _ := typing.Bind(p, a.in, a.of)
		if a.of.Kind == 0 {
			want = api.Expr{}
		}
		if !reflect.DeepEqual(l[i].of, want) || l[i].super != a.super {
			t.Fatalf("%v in %v of %v is bound as %v (%d), not as %v (%d)", a.of, a.in, p, l[i].of, l[i].super, want, a.super)
		}
	}
	holdTests(t, p)
	return code
}

func holdTests(t *testing.T, p api.Program) {
	t.Helper()
	var want []api.Test
	for _, c := range p.Classes {
		for _, m := range c.Methods {
			if m.Static && len(m.Params) == 0 && m.Type == "void" {
				want = append(want, api.Test{Class: c.Name, Name: m.Name})
			}
		}
	}
	if got := bind.Tests(p); !slices.Equal(got, want) {
		t.Fatalf("the tests of %v are %v", p, got)
	}
}

// TestLot holds programs by lot against the chapter's words, and each of those that are fine with one thing changed, too.
func TestLot(t *testing.T) {
	lot := newLot(12)
	codes := map[int]int{}
	for range 120 {
		p := lot.program()
		code := hold(t, p)
		codes[code]++
		for range 20 {
			codes[hold(t, lot.changed(p))]++
		}
	}
	for name, code := range names() {
		if codes[code] < 3 || code == 0 && codes[code] < 500 {
			t.Errorf("one-sided: %s %d times in %v", name, codes[code], codes)
		}
	}
}
