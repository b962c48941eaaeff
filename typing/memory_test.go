package typing_test

import (
	"reflect"
	"slices"
	"strconv"
	"strings"
	"testing"
	"unsafe"

	"changeling/api"
	"changeling/tree"
	"changeling/typing"
)

// own gives p texts of its own, each in memory of its own, and tells them.
func own(p api.Program) (api.Program, []string) {
	p = tree.Bare(p)
	var l []string
	for i := range p.Classes {
		c := &p.Classes[i]
		l = append(l, c.Name, c.Super)
		for _, f := range c.Fields {
			l = append(l, f.Type, f.Name)
		}
		for _, m := range c.Methods {
			l = append(l, m.Type, m.Name)
			for _, q := range m.Params {
				l = append(l, q.Type, q.Name)
			}
		}
	}
	return p, l
}

// texts are all texts of e, with those of its parts.
func texts(e api.Expr) []string {
	l := []string{e.Text, e.Name, e.Type, e.Own}
	for _, x := range e.L {
		l = append(l, texts(x)...)
	}
	return l
}

// lists are where all lists of e begin.
func lists(e api.Expr) []*api.Expr {
	var l []*api.Expr
	if cap(e.L) > 0 {
		l = append(l, unsafe.SliceData(e.L))
	}
	for _, x := range e.L {
		l = append(l, lists(x)...)
	}
	return l
}

// apart tells whether s has memory of its own, beside that of those texts.
func apart(s string, given []string) bool {
	return s == "" || !slices.ContainsFunc(given, func(g string) bool { return unsafe.StringData(s) == unsafe.StringData(g) })
}

// TestOwnMemory is rule 2 of the document: nothing handed in is changed, and nothing answered shares memory with it, nor with itself.
func TestOwnMemory(t *testing.T) {
	lot := newLot(2)
	asked := 0
	for range 300 {
		p, given := own(lot.program())
		s := lot.scope(p)
		s.Class = strings.Clone(s.Class)
		for i, v := range s.Vars {
			s.Vars[i] = api.Param{Type: strings.Clone(v.Type), Name: strings.Clone(v.Name)}
			given = append(given, s.Vars[i].Type, s.Vars[i].Name)
		}
		given = append(given, s.Class)
		w := lot.pool(p, s)
		for range 60 {
			e := w.grow()
			program, vars, whole := tree.Bare(p), slices.Clone(s.Vars), copied(e)
			x, typ, code := typing.Bind(p, s, e)
			y, same, _ := typing.Bind(p, s, e)
			kind, _ := typing.Of(p, s, e)
			if !tree.Same(program, p) || !slices.Equal(vars, s.Vars) || !reflect.DeepEqual(whole, e) {
				t.Fatal("what was handed in is changed:", p, s, e)
			}
			if code != 0 {
				continue
			}
			asked++
			w.keep(e, typ)
			l := slices.Concat(given, texts(e))
			for _, one := range slices.Concat(texts(x), []string{typ, kind}) {
				if !apart(one, l) {
					t.Fatalf("the memory of %q in the answer for %v is shared", one, e)
				}
			}
			if typ != same || !reflect.DeepEqual(x, y) {
				t.Fatalf("%v is bound otherwise: %v, %v", e, x, y)
			}
			all := slices.Concat(lists(x), lists(y), lists(e))
			seen := map[*api.Expr]int{}
			for i, at := range all {
				if k, is := seen[at]; is && (i < len(lists(x))+len(lists(y)) || k < len(lists(x))+len(lists(y))) {
					t.Fatal("two lists share memory:", e)
				}
				seen[at] = i
			}
		}
	}
	if asked < 1000 {
		t.Fatal("too few:", asked)
	}
}

// copied is e with lists of its own.
func copied(e api.Expr) api.Expr {
	e.L = slices.Clone(e.L)
	for i, x := range e.L {
		e.L[i] = copied(x)
	}
	return e
}

// TestVarMemory is rule 2 of the document, for Var.
func TestVarMemory(t *testing.T) {
	s := scope("A", "int a, B b")
	for _, v := range s.Vars {
		if got := typing.Var(s, v.Name); got != v.Type || !apart(got, []string{v.Type, v.Name}) {
			t.Fatal(got)
		}
	}
}

// TestSpare is rule 2 of the document: what stands behind the end of a list is not written to, and is not asked.
func TestSpare(t *testing.T) {
	p := house()
	args := []api.Expr{read("a"), read("i"), read("nn"), read("null")}
	before := copied(api.Expr{L: args})
	vars := scope("B", all+", C a, int a").Vars
	kept := slices.Clone(vars)
	for n := range len(vars) + 1 {
		s := typing.Scope{Class: "B", Vars: vars[:n]}
		for k := range len(args) + 1 {
			for _, kind := range []int{api.ECall, api.ESelf, api.ESuperCall} {
				e := api.Expr{Kind: kind, Name: "f", L: args[:k]}
				typing.Bind(p, s, e)
				typing.Of(p, s, e)
			}
		}
		typing.Var(s, "a")
	}
	if !slices.Equal(vars, kept) || !reflect.DeepEqual(args, before.L) {
		t.Fatal("a list is changed behind its end")
	}
	check(t, p, typing.Scope{Class: "B", Vars: vars[:5]}, "a: A\ni: int\nb: ErrName")
}

// TestEmpty is rule 5 of the document: a nil list and an empty one are the same.
func TestEmpty(t *testing.T) {
	p := house()
	for _, l := range [][]api.Expr{nil, {}} {
		for want, e := range map[string]api.Expr{
			"int":        {Kind: api.EInt, L: l},
			"C C.-1":     {Kind: api.ENew, Type: "C", L: l},
			"void A.3":   {Kind: api.ESelf, Name: "g", L: l},
			"String B.0": {Kind: api.EName, Name: "x", L: l},
			"A A.7":      {Kind: api.ESuperCall, Name: "m", L: l},
			"E E.1":      {Kind: api.EStatCall, Type: "E", Name: "none", L: l},
			"error 1":    {Kind: api.EUn, Name: "-", L: l},
		} {
			for _, vars := range [][]api.Param{nil, {}} {
				if got := ask(t, p, typing.Scope{Class: "B", Vars: vars}, e); got != want {
					t.Fatal(e, got)
				}
			}
		}
	}
	empty := api.Program{Classes: []api.Class{{Name: "A", Fields: []api.Field{}, Methods: []api.Method{}}}}
	check(t, empty, scope("A", ""), "this: A\nx: ErrName\nf(): ErrMethod\nnew A(): A A.-1")
	for _, p := range []api.Program{{}, {Classes: []api.Class{}}} {
		checkCode(t, p, scope("A", ""), read("1"), api.ErrArg)
	}
}

// TestOldBonds is promise 10.1: what e was bound to is not asked, and is gone.
func TestOldBonds(t *testing.T) {
	p, s := house(), scope("B", "int i")
	for text, want := range map[string]string{"x + f(n.x)": "String B.0 B.0 A.0 A.2", "i": "int", "new C()": "C C.-1", "-i": "int", "this as A": "A", "A::k(null, null) == super.x": "boolean A.6 A.0"} {
		e := spoilt(read(text))
		if x, kind, code := typing.Bind(p, s, e); told(x, kind, code) != want {
			t.Fatal(text, told(x, kind, code))
		}
		x, _, _ := typing.Bind(p, s, e)
		if y, kind, code := typing.Bind(p, s, x); told(y, kind, code) != want || !reflect.DeepEqual(x, y) {
			t.Fatal(text, told(y, kind, code))
		}
	}
}

// spoilt is e with all its parts bound to something that is not there.
func spoilt(e api.Expr) api.Expr {
	e = copied(e)
	e.Own, e.Nth = "?", -7
	for i, x := range e.L {
		e.L[i] = spoilt(x)
	}
	return e
}

// TestNoEnd is rule 1 of the document: what holds itself is too deep or too long, and a program's Inits and Bodies are not asked.
func TestNoEnd(t *testing.T) {
	p, s := small()
	for _, e := range []api.Expr{{Kind: api.EUn, Name: "-"}, {Kind: api.EBin, Name: "+"}, {Kind: api.ESelf, Name: "f"}, {Kind: api.ECast, Type: "A"}, {Kind: 77}} {
		for n := 1; n < 5; n++ {
			e.L = make([]api.Expr, n)
			for i := range e.L {
				e.L[i] = e
			}
			if _, code := typing.Of(p, s, e); code != api.ErrArg {
				t.Fatal(e.Kind, n, code)
			}
		}
	}
	round := make([]api.Stmt, 1)
	round[0] = api.Stmt{Kind: api.SWhile, A: round}
	init := make([]api.Expr, 1)
	init[0] = api.Expr{Kind: api.EUn, Name: "-", L: init}
	p = house()
	for i := range p.Classes {
		for k := range p.Classes[i].Fields {
			p.Classes[i].Fields[k].Init = init
		}
		for k := range p.Classes[i].Methods {
			p.Classes[i].Methods[k].Body = round
		}
	}
	check(t, p, scope("B", all), "x: String B.0\nf(1): int B.0\nsuper.f(this): String A.5\nnew B(1): B B.6\nA::s.n: A A.2 A.1\nA::k(null, this): int A.6\na.nn(): ErrMethod")
}

// TestMany is rule 1 of the document: very many classes, members, variables and parts.
func TestMany(t *testing.T) {
	const many = 20000
	nth := func(i int) string { return "C" + strconv.Itoa(i) }
	var p api.Program
	for i := range many {
		p.Classes = append(p.Classes, api.Class{Name: nth(i), Super: nth(i + 1),
			Fields:  []api.Field{{Type: nth(i), Name: "x"}, {Static: true, Type: "int", Name: "s" + strconv.Itoa(i)}},
			Methods: []api.Method{{Type: "int", Name: "f", Params: []api.Param{{Type: nth(i), Name: "a"}}}}})
	}
	p.Classes[many-1].Super = ""
	s := scope(nth(0), "C9 a")
	for range many {
		s.Vars = append(s.Vars, api.Param{Type: "int", Name: "i"})
	}
	check(t, p, s, "x: C0 C0.0\ns19999: int C19999.1\nf(a): int C9.0\nf(null): int C0.0\nnn: ErrName")
	check(t, p, s, "a.x: C9 C9.0\na as C19999: C19999\na is C0: boolean\nsuper.f(a) + f(this): int C9.0 C0.0\nnew C19999(): C19999 C19999.-1\nC5::s19998: int C19998.1\na == this: boolean\na == i: ErrType")
	wide := api.Expr{Kind: api.ESelf, Name: "f", L: make([]api.Expr, 1<<22)}
	for i := range wide.L {
		wide.L[i] = api.Expr{Kind: api.ENull}
	}
	checkCode(t, p, s, wide, api.ErrArg)
	most := api.Expr{Kind: api.ESelf, Name: "f", L: wide.L[:api.MaxNodes-1]}
	checkCode(t, p, s, most, api.ErrMethod)
	p.Classes[many-1].Super = nth(0)
	checkCode(t, p, s, read("1"), api.ErrArg)
}

// TestFull is rule 1 of the document: as many nodes as may be, all of them calls, in a program as full as may be.
func TestFull(t *testing.T) {
	var p api.Program
	for i := range api.MaxClasses {
		c := api.Class{Name: "C" + strconv.Itoa(i), Super: "C" + strconv.Itoa(i-1)}
		for k := range api.MaxMembers {
			c.Fields = append(c.Fields, api.Field{Type: c.Name, Name: "x" + strconv.Itoa(k)})
			m := api.Method{Type: c.Name, Name: "f"}
			for n := range api.MaxParams {
				m.Params = append(m.Params, api.Param{Type: "C" + strconv.Itoa(i*(k>>n&1)), Name: "a" + strconv.Itoa(n)})
			}
			if i > 0 && k > 0 {
				c.Methods = append(c.Methods, m)
			}
		}
		p.Classes = append(p.Classes, c)
	}
	p.Classes[0].Super = ""
	special := p.Classes[api.MaxClasses-1].Methods[0].Params
	for i := range special {
		special[i].Type = "C19"
	}
	calls := func(e ...api.Expr) api.Expr { return api.Expr{Kind: api.ESelf, Name: "f", L: e} }
	e := read("x29")
	var smaller api.Expr
	for range 4 {
		smaller, e = e, calls(e, e, e, e, e, e)
	}
	e = calls(e, smaller, smaller, smaller, smaller, read("null"))
	s := scope("C19", "")
	x, typ, code := typing.Bind(p, s, e)
	if code != 0 || typ != "C19" || x.Own != "C19" || x.Nth != 0 || !tree.May(p) || !tree.SameExpr(x, e) || tree.Expr(e) < api.MaxNodes/2 {
		t.Fatal(typ, code, x.Own, tree.Expr(e))
	}
}
