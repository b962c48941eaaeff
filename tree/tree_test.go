package tree_test

import (
	"reflect"
	"runtime/debug"
	"strings"
	"testing"
	"unsafe"

	"changeling/api"
	"changeling/tree"
)

func name(s string) api.Expr            { return api.Expr{Kind: api.EName, Name: s} }
func num(n int32) api.Expr              { return api.Expr{Kind: api.EInt, Num: n} }
func un(op string, e api.Expr) api.Expr { return api.Expr{Kind: api.EUn, Name: op, L: []api.Expr{e}} }
func self(f string, args ...api.Expr) api.Expr {
	return api.Expr{Kind: api.ESelf, Name: f, L: args}
}
func bin(op string, a, b api.Expr) api.Expr {
	return api.Expr{Kind: api.EBin, Name: op, L: []api.Expr{a, b}}
}
func on(kind int, e ...api.Expr) api.Stmt { return api.Stmt{Kind: kind, E: e} }

// everyExpr is one of each kind.
func everyExpr() []api.Expr {
	a := name("a")
	this := api.Expr{Kind: api.EThis}
	return []api.Expr{
		num(7), {Kind: api.EBool, Num: 1}, {Kind: api.EText, Text: "t"}, {Kind: api.ENull}, this, a,
		{Kind: api.EField, Name: "f", L: []api.Expr{this}},
		{Kind: api.ESuperName, Name: "f"},
		{Kind: api.EStatic, Type: "A", Name: "f"},
		{Kind: api.ECall, Name: "m", L: []api.Expr{this, a, num(1)}},
		self("m", a, num(2)),
		{Kind: api.ESuperCall, Name: "m", L: []api.Expr{a}},
		{Kind: api.EStatCall, Type: "A", Name: "m", L: []api.Expr{a}},
		{Kind: api.ENew, Type: "A", L: []api.Expr{a}},
		{Kind: api.ECast, Type: "A", L: []api.Expr{a}},
		{Kind: api.EIs, Type: "A", L: []api.Expr{a}},
		bin("+", a, num(3)),
		un("-", a),
	}
}

// everyStmt is one of each kind but SSuper.
func everyStmt() []api.Stmt {
	a := name("a")
	get := on(api.SReturn)
	call := on(api.SExpr, self("m"))
	return []api.Stmt{
		{Kind: api.SVar, Type: "int", Name: "b", E: []api.Expr{num(1)}},
		on(api.SAssign, a, num(2)),
		call,
		{Kind: api.SIf, E: []api.Expr{a}, A: []api.Stmt{get, call}, B: []api.Stmt{call}},
		{Kind: api.SWhile, E: []api.Expr{a}, A: []api.Stmt{get}},
		get,
		on(api.SReturn, a),
		on(api.SPrint, a),
		{Kind: api.SAssert, Num: 9, E: []api.Expr{a}},
		on(api.SThrow, a),
		{Kind: api.STry, Type: "Exception", Name: "e", A: []api.Stmt{get}, B: []api.Stmt{call}, C: []api.Stmt{get, get}},
	}
}

// full is a program that has each part, each kind, and no two of a kind alike in a list.
func full() api.Program {
	var prints []api.Stmt
	for _, e := range everyExpr() {
		prints = append(prints, on(api.SPrint, e))
	}
	ctor := api.Method{Ctor: true, Params: []api.Param{{Type: "int", Name: "a"}, {Type: "B", Name: "b"}}, Body: append([]api.Stmt{on(api.SSuper, name("a"), num(4))}, everyStmt()...)}
	return api.Program{Classes: []api.Class{
		{Name: "B"},
		{Name: "A", Super: "B",
			Fields:  []api.Field{{Static: true, Type: "String", Name: "f", Init: []api.Expr{bin("+", name("x"), num(5))}}, {Type: "boolean", Name: "g"}},
			Methods: []api.Method{ctor, {Static: true, Type: "void", Name: "m"}, {Type: "A", Name: "n", Params: []api.Param{{Type: "String", Name: "s"}}, Body: prints}}},
	}}
}

func countExpr(e api.Expr) int {
	n := 1
	for _, x := range e.L {
		n += countExpr(x)
	}
	return n
}

func countStmts(l []api.Stmt) int {
	n := len(l)
	for _, s := range l {
		for _, e := range s.E {
			n += countExpr(e)
		}
		n += countStmts(s.A) + countStmts(s.B) + countStmts(s.C)
	}
	return n
}

func countProgram(p api.Program) int {
	n := len(p.Classes)
	for _, c := range p.Classes {
		n += len(c.Fields) + len(c.Methods)
		for _, f := range c.Fields {
			for _, e := range f.Init {
				n += countExpr(e)
			}
		}
		for _, m := range c.Methods {
			n += countStmts(m.Body)
		}
	}
	return n
}

// TestSizes is promise 3.1: plain ones, counted by hand.
func TestSizes(t *testing.T) {
	a := name("a")
	for i, c := range []struct {
		e    api.Expr
		want int
	}{
		{api.Expr{}, 1}, {a, 1}, {un("-", a), 2}, {bin("+", a, a), 3}, {bin("+", bin("*", a, a), un("!", a)), 6},
		{self("f"), 1}, {self("f", a, self("g", a, a), a), 6}, {api.Expr{Kind: api.EInt, L: []api.Expr{a, {}}}, 3}, {api.Expr{Kind: -5, L: make([]api.Expr, 9)}, 10},
	} {
		if got := tree.Expr(c.e); got != c.want {
			t.Fatal(i, got)
		}
	}
	inner := on(api.SPrint, bin("+", a, a))
	for i, c := range []struct {
		l    []api.Stmt
		want int
	}{
		{nil, 0}, {[]api.Stmt{}, 0}, {[]api.Stmt{{}}, 1}, {[]api.Stmt{{}, {}}, 2}, {[]api.Stmt{inner}, 4}, {[]api.Stmt{inner, on(api.SReturn)}, 5},
		{[]api.Stmt{{A: []api.Stmt{inner}}}, 5}, {[]api.Stmt{{B: []api.Stmt{inner}}}, 5}, {[]api.Stmt{{C: []api.Stmt{inner}}}, 5},
		{[]api.Stmt{{Kind: api.SIf, E: []api.Expr{a, un("!", a)}, A: []api.Stmt{inner, {A: []api.Stmt{{}}}}, B: []api.Stmt{inner}, C: []api.Stmt{{}}}}, 15},
	} {
		if got := tree.Stmts(c.l); got != c.want {
			t.Fatal(i, got)
		}
	}
	for i, c := range []struct {
		c    api.Class
		want int
	}{
		{api.Class{}, 1}, {api.Class{Fields: make([]api.Field, 3)}, 4}, {api.Class{Methods: make([]api.Method, 3)}, 4},
		{api.Class{Methods: []api.Method{{Params: make([]api.Param, 5)}}}, 2},
		{api.Class{Fields: []api.Field{{Init: []api.Expr{bin("+", a, a)}}}}, 5}, {api.Class{Fields: []api.Field{{Init: make([]api.Expr, 3)}}}, 5},
		{api.Class{Methods: []api.Method{{Body: []api.Stmt{inner}}, {Ctor: true, Body: []api.Stmt{inner, {}}}}}, 12},
	} {
		if got := tree.Nodes(api.Program{Classes: []api.Class{c.c}}); got != c.want {
			t.Fatal(i, got)
		}
		if got := tree.Nodes(api.Program{Classes: []api.Class{c.c, {}, c.c}}); got != 2*c.want+1 {
			t.Fatal(i, got)
		}
	}
	if tree.Nodes(api.Program{}) != 0 || tree.Nodes(api.Program{Classes: []api.Class{}}) != 0 {
		t.Fatal("no classes: 0 nodes")
	}
}

// TestSizesAreSums is promises 3.1 and 3.3: what is there is counted once, whatever it is.
func TestSizesAreSums(t *testing.T) {
	for _, e := range everyExpr() {
		if tree.Expr(e) != countExpr(e) {
			t.Fatal(e, tree.Expr(e))
		}
	}
	if l := everyStmt(); tree.Stmts(l) != countStmts(l) {
		t.Fatal(tree.Stmts(l))
	}
	p := full()
	if tree.Nodes(p) != countProgram(p) {
		t.Fatal(tree.Nodes(p))
	}
	eachChange(p, func(how string, q api.Program) {
		if tree.Nodes(q) != countProgram(q) {
			t.Fatal(how, tree.Nodes(q))
		}
	})
}

// eachChange goes over p with one part within it otherwise, and how: a leaf with another value, a list with one less, one more, and two changed about.
func eachChange(p api.Program, do func(how string, q api.Program)) {
	q := copied(p)
	for _, s := range spots(reflect.ValueOf(&q).Elem(), "") {
		kept := reflect.New(s.v.Type()).Elem()
		kept.Set(s.v)
		for way := range 3 {
			if !alter(s.v, way) {
				continue
			}
			do(s.path+" "+string(rune('0'+way)), q)
			if way == 2 && s.v.Kind() == reflect.Slice {
				alter(s.v, way) // back again: the places of what stands in the list are still to come
			}
			s.v.Set(kept)
		}
	}
}

// spot is a leaf or a list within a program.
type spot struct {
	path string
	v    reflect.Value
}

func spots(v reflect.Value, path string) []spot {
	var l []spot
	switch v.Kind() {
	case reflect.Struct:
		for i := range v.NumField() {
			l = append(l, spots(v.Field(i), path+"."+v.Type().Field(i).Name)...)
		}
	case reflect.Slice:
		l = append(l, spot{path + "[]", v})
		for i := range v.Len() {
			l = append(l, spots(v.Index(i), path+"[]")...)
		}
	default:
		l = append(l, spot{path, v})
	}
	return l
}

// alter makes v otherwise in one of three ways; false, if that one would change nothing.
func alter(v reflect.Value, way int) bool {
	switch v.Kind() {
	case reflect.Bool:
		if way > 0 {
			return false
		}
		v.SetBool(!v.Bool())
	case reflect.Int, reflect.Int32:
		v.SetInt([]int64{v.Int() + 1, -v.Int() - 1, v.Int() ^ 1<<30}[way])
	case reflect.String:
		v.SetString([]string{v.String() + "x", v.String() + "\x00", strings.ToUpper(v.String() + "y")}[way])
	case reflect.Slice:
		n := v.Len()
		switch {
		case way == 0:
			v.Set(reflect.Append(v, reflect.Zero(v.Type().Elem())))
		case way == 1 && n > 0:
			v.Set(v.Slice(0, n-1))
		case way == 2 && n > 1 && !reflect.DeepEqual(v.Index(0).Interface(), v.Index(1).Interface()):
			reflect.Swapper(v.Interface())(0, 1)
		default:
			return false
		}
	}
	return true
}

// copied is p with lists of its own.
func copied(p api.Program) api.Program { return copyOf(reflect.ValueOf(p)).Interface().(api.Program) }

func copyOf(v reflect.Value) reflect.Value {
	to := reflect.New(v.Type()).Elem()
	to.Set(v)
	switch {
	case v.Kind() == reflect.Struct:
		for i := range v.NumField() {
			to.Field(i).Set(copyOf(v.Field(i)))
		}
	case v.Kind() == reflect.Slice && !v.IsNil():
		to.Set(reflect.MakeSlice(v.Type(), v.Len(), v.Len()))
		for i := range v.Len() {
			to.Index(i).Set(copyOf(v.Index(i)))
		}
	}
	return to
}

// emptied has empty lists for nil ones, with room behind them.
func emptied(p api.Program) api.Program {
	q := copied(p)
	for _, s := range spots(reflect.ValueOf(&q).Elem(), "") {
		if s.v.Kind() == reflect.Slice && s.v.Len() == 0 {
			s.v.Set(reflect.MakeSlice(s.v.Type(), 0, 3))
		}
	}
	return q
}

// bound has an Own and an Nth wherever there is room for one.
func bound(p api.Program, own string, nth int) api.Program {
	q := copied(p)
	for _, s := range spots(reflect.ValueOf(&q).Elem(), "") {
		if strings.HasSuffix(s.path, ".Own") {
			s.v.SetString(own)
		}
		if strings.HasSuffix(s.path, ".Nth") {
			s.v.SetInt(int64(nth))
		}
	}
	return q
}

// TestSame is promise 3.2: each part counts but Own and Nth, from either side.
func TestSame(t *testing.T) {
	p := full()
	if !tree.Same(p, p) || !tree.Same(p, copied(p)) || !tree.Same(api.Program{}, api.Program{}) || tree.Same(p, api.Program{}) || tree.Same(api.Program{}, p) {
		t.Fatal("Same of plain ones")
	}
	if e := emptied(p); !tree.Same(p, e) || !tree.Same(e, p) {
		t.Fatal("a nil list and an empty one are the same")
	}
	if b := bound(p, "A", -1); !tree.Same(p, b) || !tree.Same(b, p) || !tree.Same(b, bound(p, "B", 7)) {
		t.Fatal("Own and Nth do not count")
	}
	all, free := 0, 0
	eachChange(p, func(how string, q api.Program) {
		all++
		want := strings.Contains(how, ".Own ") || strings.Contains(how, ".Nth ")
		if want {
			free++
		}
		if tree.Same(p, q) != want || tree.Same(q, p) != want {
			t.Fatal(how)
		}
	})
	if free < 100 || all < 1000 {
		t.Fatal(free, all)
	}
}

// TestSameParts is promise 3.2 of expressions and of statements alone.
func TestSameParts(t *testing.T) {
	l, other := everyExpr(), everyExpr()
	for i := range l {
		for j := range other {
			if tree.SameExpr(l[i], other[j]) != (i == j) {
				t.Fatal(i, j)
			}
		}
		b := l[i]
		b.Own, b.Nth = "Z", 99
		if !tree.SameExpr(l[i], b) || !tree.SameExpr(b, l[i]) {
			t.Fatal(i)
		}
	}
	body, again := everyStmt(), everyStmt()
	for i := range body {
		for j := range again {
			if tree.SameStmts(body[:i], again[:j]) != (i == j) || tree.SameStmts(body[i:i+1], again[j:j+1]) != (i == j) {
				t.Fatal(i, j)
			}
		}
		again[i].Nth = i + 1
	}
	if !tree.SameStmts(body, again) || !tree.SameStmts(nil, []api.Stmt{}) || tree.SameStmts(nil, body) || tree.SameStmts(body, nil) {
		t.Fatal("SameStmts")
	}
}

// TestShapeCounts is promise 3.3: the same nodes in one order, put together otherwise, are another tree.
func TestShapeCounts(t *testing.T) {
	a, b, c := name("a"), name("b"), name("c")
	exprs := []api.Expr{
		bin("-", bin("-", a, b), c), bin("-", a, bin("-", b, c)),
		self("f", self("f", a), b), self("f", self("f", a, b)), self("f", a, self("f", b)), self("f", a, b, self("f")), self("f", self("f"), a, b),
	}
	x, y := on(api.SPrint, a), on(api.SPrint, b)
	both := []api.Stmt{x, y}
	stmts := []api.Stmt{
		{A: both}, {B: both}, {C: both},
		{A: both[:1], B: both[1:]}, {A: both[:1], C: both[1:]}, {B: both[:1], C: both[1:]},
		{B: both[:1], A: both[1:]}, {A: []api.Stmt{{Kind: api.SPrint, E: x.E, A: both[1:]}}}, {A: both[:1], E: []api.Expr{b}},
	}
	for i := range exprs {
		for j := range exprs {
			if tree.SameExpr(exprs[i], exprs[j]) != (i == j) {
				t.Fatal("expressions", i, j)
			}
		}
	}
	for i := range stmts {
		for j := range stmts {
			if tree.SameStmts(stmts[i:i+1], stmts[j:j+1]) != (i == j) {
				t.Fatal("statements", i, j)
			}
		}
	}
	m := func(l []api.Stmt, more ...api.Stmt) api.Program {
		return api.Program{Classes: []api.Class{{Methods: []api.Method{{Body: l}, {Body: more}}}}}
	}
	if tree.Same(m(both), m(both[:1], both[1:]...)) || tree.Same(m(nil, both...), m(both)) || !tree.Same(m(both, both...), m(both, both...)) {
		t.Fatal("statements of two methods")
	}
	if tree.Same(api.Program{Classes: []api.Class{{Fields: make([]api.Field, 1)}, {}}}, api.Program{Classes: []api.Class{{}, {Fields: make([]api.Field, 1)}}}) {
		t.Fatal("fields of two classes")
	}
}

// memory are the places of all lists and texts within v that have some length.
func memory(v reflect.Value) (lists, texts []unsafe.Pointer) {
	for _, s := range spots(v, "") {
		if s.v.Kind() == reflect.Slice && s.v.Len() > 0 {
			lists = append(lists, s.v.UnsafePointer())
		}
		if s.v.Kind() == reflect.String && s.v.Len() > 0 {
			texts = append(texts, unsafe.Pointer(unsafe.StringData(s.v.String())))
		}
	}
	return lists, texts
}

// TestBare is promise 3.2: the same without Own and Nth, and nothing of what is handed in has changed.
func TestBare(t *testing.T) {
	p := full()
	for _, x := range []api.Program{p, emptied(p), {}, {Classes: make([]api.Class, 2)}} {
		for _, nth := range []int{0, -1, 5} {
			from := bound(x, "Own"[:max(0, nth)*3/5], nth)
			kept := copied(from)
			got := tree.Bare(from)
			if !reflect.DeepEqual(from, kept) {
				t.Fatal("what is handed in has changed")
			}
			if !tree.Same(got, x) || !reflect.DeepEqual(emptied(got), emptied(bound(x, "", 0))) {
				t.Fatal(got)
			}
			if again := tree.Bare(got); !reflect.DeepEqual(emptied(again), emptied(got)) {
				t.Fatal("Bare of a bare one")
			}
		}
	}
	n := 0
	eachChange(p, func(how string, q api.Program) {
		n++
		if n%7 != 0 {
			return // each takes its time, and they are near one another
		}
		if got := tree.Bare(q); !reflect.DeepEqual(emptied(got), emptied(bound(q, "", 0))) {
			t.Fatal(how)
		}
	})
}

// TestBareIsNew is the rule that an answer is the caller's own: no list and no text of it is shared, also where the argument's own lists are.
func TestBareIsNew(t *testing.T) {
	twice := []api.Stmt{on(api.SPrint, name("a")), on(api.SPrint, name("b"))}
	shared := full()
	shared.Classes = append(shared.Classes, shared.Classes...)
	shared.Classes[0].Methods = []api.Method{{Body: twice}, {Body: twice[:1]}, {Body: []api.Stmt{{A: twice, B: twice, C: twice[1:]}}}}
	for _, p := range []api.Program{full(), shared} {
		b := tree.Bare(p)
		oldLists, oldTexts := memory(reflect.ValueOf(p))
		lists, texts := memory(reflect.ValueOf(b))
		seen := map[unsafe.Pointer]bool{}
		for _, x := range append(oldLists, oldTexts...) {
			seen[x] = true
		}
		for _, x := range texts {
			if seen[x] {
				t.Fatal("a text is shared with what is handed in")
			}
		}
		for _, x := range lists {
			if seen[x] {
				t.Fatal("a list is shared")
			}
			seen[x] = true
		}
	}
}

// chain is an expression and a statement that many deep.
func chain(deep int) (api.Expr, api.Stmt) {
	e, s := name("a"), on(api.SReturn)
	for i := range deep - 1 {
		e = self("f", e)
		in := []api.Stmt{s}
		s = []api.Stmt{{A: in}, {B: in}, {C: in}}[i%3]
	}
	return e, s
}

// TestAnyDepth is promise 3.3 and the rule that every call ends: a tree may be deeper than the stack, and wider than any limit.
func TestAnyDepth(t *testing.T) {
	defer debug.SetMaxStack(debug.SetMaxStack(1 << 20))
	const deep = 1 << 17
	e, s := chain(deep)
	other, otherStmt := chain(deep + 1)
	l := []api.Stmt{s, {Kind: api.SPrint, E: []api.Expr{e}}}
	if tree.Expr(e) != deep || tree.Stmts(l) != 2*deep+1 {
		t.Fatal("sizes", tree.Expr(e), tree.Stmts(l))
	}
	if !tree.SameExpr(e, e) || tree.SameExpr(e, other) || !tree.SameStmts(l, l) || tree.SameStmts(l[:1], []api.Stmt{otherStmt}) {
		t.Fatal("the same")
	}
	p := api.Program{Classes: []api.Class{{Name: "A", Methods: []api.Method{{Ctor: true, Body: l}}, Fields: []api.Field{{Type: "int", Name: "f", Init: []api.Expr{e}}}}}}
	if b := tree.Bare(p); tree.Nodes(p) != 3*deep+4 || tree.Nodes(b) != 3*deep+4 || !tree.Same(b, p) || tree.May(p) {
		t.Fatal("a deep program")
	}
	wide := api.Program{Classes: []api.Class{{Name: "A", Methods: []api.Method{{Ctor: true, Body: []api.Stmt{on(api.SExpr, self("f", make([]api.Expr, deep)...))}}}}}}
	if tree.Nodes(wide) != deep+4 || !tree.Same(wide, tree.Bare(wide)) || tree.May(wide) {
		t.Fatal("a wide program")
	}
}
