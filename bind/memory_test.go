package bind_test

import (
	"reflect"
	"slices"
	"strconv"
	"strings"
	"testing"
	"unsafe"

	"changeling/api"
	"changeling/bind"
	"changeling/tree"
)

// parts are all texts of p, and where all its lists begin.
func parts(p api.Program) (texts []string, lists []unsafe.Pointer) {
	add(&lists, p.Classes)
	for _, c := range p.Classes {
		texts = append(texts, c.Name, c.Super)
		add(&lists, c.Fields)
		add(&lists, c.Methods)
		for _, f := range c.Fields {
			texts = append(texts, f.Type, f.Name)
			add(&lists, f.Init)
		}
		for _, m := range c.Methods {
			texts = append(texts, m.Type, m.Name)
			add(&lists, m.Params)
			for _, q := range m.Params {
				texts = append(texts, q.Type, q.Name)
			}
		}
	}
	exprs, stmts, bodies := all(p)
	for _, e := range exprs {
		texts = append(texts, e.Text, e.Name, e.Type, e.Own)
		add(&lists, e.L)
	}
	for _, s := range stmts {
		texts = append(texts, s.Type, s.Name)
		add(&lists, s.E)
	}
	for _, l := range bodies {
		add(&lists, *l)
	}
	return texts, lists
}

func add[T any](lists *[]unsafe.Pointer, l []T) {
	if cap(l) > 0 {
		*lists = append(*lists, unsafe.Pointer(unsafe.SliceData(l)))
	}
}

// known are where texts begin.
func known(texts []string) map[*byte]bool {
	at := map[*byte]bool{}
	for _, s := range texts {
		if s != "" {
			at[unsafe.StringData(s)] = true
		}
	}
	return at
}

// deep is p in memory of its own, with what it is bound to.
func deep(p api.Program) api.Program {
	q := tree.Bare(p)
	exprs, stmts, _ := all(p)
	ownExprs, ownStmts, _ := all(q)
	for i, e := range exprs {
		ownExprs[i].Own, ownExprs[i].Nth = strings.Clone(e.Own), e.Nth
	}
	for i, s := range stmts {
		ownStmts[i].Nth = s.Nth
	}
	return q
}

// TestOwnMemory is rule 2 of the document: nothing handed in is changed, and nothing answered shares memory with it, nor with itself.
func TestOwnMemory(t *testing.T) {
	lot := newLot(2)
	fine, wrong, tests := 0, 0, 0
	for range 60 {
		p := lot.program()
		for _, p := range []api.Program{tree.Bare(p), spoilt(p), tree.Bare(lot.changed(p)), tree.Bare(lot.changed(p))} {
			before := deep(p)
			b, code, where := bind.Program(p)
			again, _, _ := bind.Program(p)
			c, w := bind.Check(p)
			l := bind.Tests(p)
			if !reflect.DeepEqual(p, before) {
				t.Fatalf("%v was handed in, and is %v", before, p)
			}
			if c != code || w != where || !reflect.DeepEqual(b, again) {
				t.Fatal("the same program is told otherwise:", p)
			}
			texts, lists := parts(p)
			at := known(texts)
			for _, s := range []string{where, w} {
				if s != "" && at[unsafe.StringData(s)] {
					t.Fatalf("the memory of %q is shared: %v", s, p)
				}
			}
			for _, x := range l {
				tests++
				if at[unsafe.StringData(x.Class)] || at[unsafe.StringData(x.Name)] {
					t.Fatalf("the memory of %v is shared: %v", x, p)
				}
			}
			if code != 0 {
				wrong++
				continue
			}
			fine++
			holdApart(t, b, again, at, lists)
		}
	}
	if fine < 50 || wrong < 50 || tests < 50 {
		t.Error("one-sided:", fine, wrong, tests)
	}
}

// holdApart holds that two answers share no memory with what was handed in, and that no two lists of them share any.
func holdApart(t *testing.T, b, again api.Program, at map[*byte]bool, given []unsafe.Pointer) {
	t.Helper()
	texts, lists := parts(b)
	more, others := parts(again)
	for _, s := range slices.Concat(texts, more) {
		if s != "" && at[unsafe.StringData(s)] {
			t.Fatalf("the memory of %q is shared", s)
		}
	}
	seen := map[unsafe.Pointer]bool{}
	for _, x := range slices.Concat(given, lists, others) {
		if seen[x] {
			t.Fatal("two lists share memory")
		}
		seen[x] = true
	}
}

// roomy is p with lists that have room behind their ends, where something stands.
func roomy(p api.Program) api.Program {
	p = tree.Bare(p)
	exprs, stmts, bodies := all(p)
	for _, l := range slices.Backward(bodies) {
		*l = room(*l, api.Stmt{Kind: 77, Name: "behind"})
	}
	for _, s := range stmts {
		s.E = room(s.E, api.Expr{Kind: 77, Name: "behind"})
	}
	for _, e := range exprs {
		e.L = room(e.L, api.Expr{Kind: 77, Name: "behind"})
	}
	for i := range p.Classes {
		for k := range p.Classes[i].Methods {
			m := &p.Classes[i].Methods[k]
			m.Params = room(m.Params, api.Param{Type: "behind", Name: "behind"})
		}
	}
	return p
}

// room is l with such ones behind its end.
func room[T any](l []T, behind T) []T {
	return append(append(make([]T, 0, len(l)+3), l...), behind, behind, behind)[:len(l)]
}

// TestRoom is rule 2 of the document: what stands behind the end of a list is neither written to nor asked.
func TestRoom(t *testing.T) {
	text := house + `class H extends A { int h = f(1) + f(2); H(int a) { super(a); int b = 1; String c = ""; try { int d = 1; } catch (E e) { int f = 2; } finally { int g = 3; } }
		int m(int a, A q) { int b = a; if (b == 1) { int c = 2; int d = 3; } else { A e = q; } while (true) { int i = 1; i = i + 1; } } }`
	for _, p := range []api.Program{made(text), made(strings.Replace(text, "d = 3", "d = true", 1))} {
		q := roomy(p)
		want, code, where := bind.Program(p)
		b, c, w := bind.Program(q)
		if code != c || where != w || !reflect.DeepEqual(want, b) {
			t.Fatal("with room it is otherwise:", p, told(code, where), told(c, w))
		}
		_, _, bodies := all(q)
		for _, l := range bodies {
			for _, s := range (*l)[len(*l):cap(*l)] {
				if s.Kind != 77 || s.Name != "behind" {
					t.Fatal("a list is changed behind its end:", s)
				}
			}
		}
		for _, c := range q.Classes {
			for _, m := range c.Methods {
				for _, v := range m.Params[len(m.Params):cap(m.Params)] {
					if v.Type != "behind" || v.Name != "behind" {
						t.Fatal("parameters are changed behind their end:", v)
					}
				}
			}
		}
	}
}

// TestEmpty is rule 5 of the document: a nil list and an empty one are the same.
func TestEmpty(t *testing.T) {
	lot := newLot(5)
	fine := 0
	for range 60 {
		p := lot.program()
		q := tree.Bare(p)
		exprs, stmts, bodies := all(q)
		for _, e := range exprs {
			e.L = append([]api.Expr{}, e.L...)
		}
		for _, s := range stmts {
			s.E = append([]api.Expr{}, s.E...)
		}
		for _, l := range slices.Backward(bodies) {
			*l = append([]api.Stmt{}, *l...)
		}
		for i := range q.Classes {
			c := &q.Classes[i]
			c.Fields, c.Methods = append([]api.Field{}, c.Fields...), append([]api.Method{}, c.Methods...)
			for k := range c.Fields {
				c.Fields[k].Init = append([]api.Expr{}, c.Fields[k].Init...)
			}
			for k := range c.Methods {
				c.Methods[k].Params = append([]api.Param{}, c.Methods[k].Params...)
			}
		}
		a, code, where := bind.Program(p)
		b, c, w := bind.Program(q)
		if code != c || where != w || bonds(a) != bonds(b) || !tree.Same(a, b) || !slices.Equal(bind.Tests(p), bind.Tests(q)) {
			t.Fatal("with empty lists it is otherwise:", p)
		}
		if code == 0 {
			fine++
		}
	}
	if fine < 20 {
		t.Error("one-sided:", fine)
	}
	for _, p := range []api.Program{{}, {Classes: []api.Class{}}} {
		if got := ask(t, p); got != "fine" || len(bind.Tests(p)) != 0 {
			t.Fatal(got)
		}
	}
}

// TestNoEnd is rule 1 of the document: what holds itself, or is very much, may not be.
func TestNoEnd(t *testing.T) {
	body := make([]api.Stmt, 1)
	body[0] = api.Stmt{Kind: api.SWhile, E: []api.Expr{{Kind: api.EBool}}, A: body}
	init := make([]api.Expr, 1)
	init[0] = api.Expr{Kind: api.EUn, Name: "-", L: init}
	wide := make([]api.Expr, 1<<20)
	many := make([]api.Class, 1<<20)
	for i := range many {
		many[i].Name = "A" + strconv.Itoa(i)
	}
	for i, c := range []api.Class{
		{Name: "A", Methods: []api.Method{{Type: "void", Name: "f", Body: body}}},
		{Name: "A", Fields: []api.Field{{Type: "int", Name: "x", Init: init}}},
		{Name: "A", Fields: []api.Field{{Type: "int", Name: "x", Init: wide}}},
		{Name: "A", Fields: make([]api.Field, 1<<20)},
		{Name: "A", Methods: make([]api.Method, 1<<20)},
		{Name: strings.Repeat("A", 1<<20)},
	} {
		if got := ask(t, api.Program{Classes: []api.Class{c}}); got != "ErrArg" {
			t.Fatal(i, got)
		}
	}
	if got := ask(t, api.Program{Classes: many}); got != "ErrArg" {
		t.Fatal(got)
	}
}

// nested is a class with a method whose Body is that deep, and whose outermost expression there is one of as many minus signs as may stand.
func nested(deep int) api.Program {
	e := api.Expr{Kind: api.EInt}
	for range api.MaxDeep - 1 {
		e = api.Expr{Kind: api.EUn, Name: "-", L: []api.Expr{e}}
	}
	l := []api.Stmt{{Kind: api.SVar, Type: "int", Name: "a", E: []api.Expr{{Kind: api.EName, Name: "x"}}}}
	for range deep - 1 {
		l = []api.Stmt{{Kind: api.SWhile, E: []api.Expr{{Kind: api.EBool, Num: 1}}, A: l}}
	}
	l = append([]api.Stmt{{Kind: api.SPrint, E: []api.Expr{e}}}, l...)
	return api.Program{Classes: []api.Class{{Name: "A", Fields: []api.Field{{Type: "int", Name: "x", Init: []api.Expr{e}}}, Methods: []api.Method{{Type: "void", Name: "f", Body: l}}}}}
}

// TestLimits is promise 12.1 at the limits of 3.2, on both sides.
func TestLimits(t *testing.T) {
	for n, want := range map[int]string{1: "fine", api.MaxDeep - 1: "fine", api.MaxDeep: "fine", api.MaxDeep + 1: "ErrArg"} {
		p := nested(n)
		if got := ask(t, p); got != want || tree.May(p) != (want == "fine") {
			t.Fatal(n, got)
		}
	}
	for n, want := range map[int]string{api.MaxClasses: "fine", api.MaxClasses + 1: "ErrArg"} {
		var p api.Program
		for i := range n {
			p.Classes = append(p.Classes, api.Class{Name: "A" + strconv.Itoa(i)})
		}
		if got := ask(t, p); got != want {
			t.Fatal(n, got)
		}
	}
	for n, want := range map[int]string{api.MaxMembers: "fine", api.MaxMembers + 1: "ErrArg"} {
		var p api.Program
		var c api.Class
		for i := range n {
			c.Fields = append(c.Fields, api.Field{Type: "int", Name: "x" + strconv.Itoa(i), Init: []api.Expr{{Kind: api.EInt}}})
			c.Methods = append(c.Methods, api.Method{Static: true, Type: "void", Name: "f" + strconv.Itoa(i)})
		}
		c.Name = "A"
		p.Classes = []api.Class{c}
		if got := ask(t, p); got != want || want == "fine" && len(bind.Tests(p)) != n {
			t.Fatal(n, got)
		}
	}
	for n, want := range map[int]string{api.MaxParams: "fine", api.MaxParams + 1: "ErrArg"} {
		m := api.Method{Type: "void", Name: "f"}
		for i := range n {
			m.Params = append(m.Params, api.Param{Type: "int", Name: "a" + strconv.Itoa(i)})
		}
		if got := ask(t, api.Program{Classes: []api.Class{{Name: "A", Methods: []api.Method{m}}}}); got != want {
			t.Fatal(n, got)
		}
	}
}

// TestFull is rule 1 of the document: as many nodes as may be, in a program as full as may be.
func TestFull(t *testing.T) {
	p := full()
	if n := tree.Nodes(p); n != api.MaxNodes || !tree.May(p) {
		t.Fatal(n)
	}
	if got := ask(t, p); got != "fine" {
		t.Fatal(got)
	}
	last := &p.Classes[api.MaxClasses-1].Methods[api.MaxMembers-1]
	last.Body[0].E[0] = api.Expr{Kind: api.EName, Name: "a6"}
	if got := ask(t, p); got != "ErrName A19.f29" {
		t.Fatal(got)
	}
	last.Body = append(last.Body, api.Stmt{Kind: api.SReturn})
	if got := ask(t, p); got != "ErrArg" {
		t.Fatal(got)
	}
}

// full is a program of as many classes, members and nodes as may be.
func full() api.Program {
	var p api.Program
	for i := range api.MaxClasses {
		c := api.Class{Name: "A" + strconv.Itoa(i)}
		if i > 0 {
			c.Super = "A" + strconv.Itoa(i-1)
		}
		for k := range api.MaxMembers {
			c.Fields = append(c.Fields, api.Field{Type: c.Name, Name: "x" + strconv.Itoa(k)})
			m := api.Method{Type: "void", Name: "f" + strconv.Itoa(k)}
			for n := range api.MaxParams {
				m.Params = append(m.Params, api.Param{Type: "A" + strconv.Itoa(i*(k>>n&1)), Name: "a" + strconv.Itoa(n)})
			}
			m.Body = []api.Stmt{{Kind: api.SThrow, E: []api.Expr{{Kind: api.ENull}}}}
			c.Methods = append(c.Methods, m)
		}
		p.Classes = append(p.Classes, c)
	}
	// Two nodes of each member that is a method, and one for all else, are 2420; the first one has what is left.
	first := &p.Classes[0].Methods[0].Body
	for tree.Nodes(p) < api.MaxNodes-1 {
		*first = append(*first, api.Stmt{Kind: api.SPrint, E: []api.Expr{{Kind: api.EBool}}})
	}
	for tree.Nodes(p) < api.MaxNodes {
		*first = append(*first, api.Stmt{Kind: api.SReturn})
	}
	return p
}
