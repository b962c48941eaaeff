package method_test

import (
	"reflect"
	"runtime/debug"
	"slices"
	"strconv"
	"strings"
	"testing"
	"unsafe"

	"changeling/api"
	"changeling/method"
)

// memory is the memory of all lists and texts within a value, but of empty ones.
func memory(v reflect.Value) (lists, texts []unsafe.Pointer) {
	switch v.Kind() {
	case reflect.String:
		if v.Len() > 0 {
			texts = append(texts, unsafe.Pointer(unsafe.StringData(v.String())))
		}
	case reflect.Struct:
		for i := range v.NumField() {
			l, s := memory(v.Field(i))
			lists, texts = append(lists, l...), append(texts, s...)
		}
	case reflect.Slice:
		if v.Cap() > 0 {
			lists = append(lists, v.UnsafePointer())
		}
		for i := range v.Len() {
			l, s := memory(v.Index(i))
			lists, texts = append(lists, l...), append(texts, s...)
		}
	}
	return lists, texts
}

// rich is a program of three classes in a row, with full methods, some of which have empty lists; all names of classes have memory of their own.
func rich() api.Program {
	names := []string{strings.Clone("Apple"), strings.Clone("Berry"), strings.Clone("Cherry")}
	bare := api.Method{Type: strings.Clone("int"), Name: strings.Clone("plain"), Params: []api.Param{}, Body: []api.Stmt{{E: []api.Expr{}, A: []api.Stmt{}}}}
	p := api.Program{Classes: []api.Class{{Name: names[0], Super: names[1]}, {Name: names[1], Super: names[2]}, {Name: names[2]}}}
	for i := range p.Classes {
		ctor := full("")
		ctor.Ctor = true
		p.Classes[i].Methods = []api.Method{full("first"), bare, ctor, full("last")}
	}
	return p
}

// TestOwnMemory is rule 2 of the document: nothing handed in is changed, and nothing answered shares memory with it.
func TestOwnMemory(t *testing.T) {
	p := rich()
	lists, texts := memory(reflect.ValueOf(p))
	for range 2 {
		for _, c := range p.Classes {
			for _, l := range [][]api.Target{method.All(p, c.Name, "first"), method.Ctors(p, c.Name), method.Ctors(p, "ZeroFault")} {
				checkApart(t, lists, texts, l)
				clear(l[:cap(l)])
			}
			for i, m := range c.Methods {
				x := api.Target{Own: c.Name, Nth: i}
				got, _ := method.Get(p, x)
				found, _ := method.Find(p, c.Name, m)
				above, _ := method.Above(p, x)
				below := method.Below(p, x)
				for _, answer := range []any{got, found, above, below} {
					checkApart(t, lists, texts, answer)
				}
				clear(got.Params[:cap(got.Params)])
				wipe(got.Body)
				clear(below[:cap(below)])
			}
		}
		method.Check(p)
		if !reflect.DeepEqual(p, rich()) {
			t.Fatal("what was handed in is changed")
		}
	}
}

// TestAskedMemory is rule 2 of the document of the texts that are handed in beside the program.
func TestAskedMemory(t *testing.T) {
	p := of("A: int f, new", "B A: int f")
	class, name, base := strings.Clone("B"), strings.Clone("f"), strings.Clone("NullFault")
	_, texts := memory(reflect.ValueOf([]string{class, name, base}))
	checkApart(t, nil, texts, method.All(p, class, name))
	checkApart(t, nil, texts, method.Ctors(p, class))
	checkApart(t, nil, texts, method.Ctors(p, base))
	found, _ := method.Find(p, class, api.Method{Name: name})
	checkApart(t, nil, texts, found)
}

// checkApart holds that an answer has none of the memory that was given, and no list twice.
func checkApart(t *testing.T, givenLists, givenTexts []unsafe.Pointer, answer any) {
	t.Helper()
	lists, texts := memory(reflect.ValueOf(answer))
	for i, l := range lists {
		if slices.Contains(givenLists, l) || slices.Contains(lists[:i], l) {
			t.Fatalf("a list of %v is shared", answer)
		}
	}
	for _, s := range texts {
		if slices.Contains(givenTexts, s) {
			t.Fatalf("a text of %v is shared", answer)
		}
	}
}

// wipe writes over all lists of statements and of expressions, up to their capacity.
func wipe(l []api.Stmt) {
	for _, s := range l {
		wipe(s.A)
		wipe(s.B)
		wipe(s.C)
		wipeExprs(s.E)
	}
	clear(l[:cap(l)])
}

func wipeExprs(l []api.Expr) {
	for _, e := range l {
		wipeExprs(e.L)
	}
	clear(l[:cap(l)])
}

// TestAnyDepth is rule 1 of the document: a Body may be deeper than the stack, and wider than any limit.
func TestAnyDepth(t *testing.T) {
	defer debug.SetMaxStack(debug.SetMaxStack(1 << 20))
	const many = 1 << 16
	e := api.Expr{Kind: api.ENull}
	for i := range many {
		e = api.Expr{Kind: api.EUn, Num: int32(i), L: []api.Expr{e}}
	}
	s := api.Stmt{Kind: api.SThrow, E: []api.Expr{e}}
	for i := range many {
		in := []api.Stmt{s}
		s = api.Stmt{Kind: api.STry, Num: int32(i)}
		switch i % 3 {
		case 0:
			s.A = in
		case 1:
			s.B = in
		case 2:
			s.C = in
		}
	}
	p := of("A: new, void f")
	p.Classes[0].Methods[0].Body = []api.Stmt{s}
	p.Classes[0].Methods[1].Body = make([]api.Stmt, many)
	deep, is := method.Get(p, to("A 0"))
	wide, isWide := method.Get(p, to("A 1"))
	if !is || !isWide || len(wide.Body) != many {
		t.Fatal(is, isWide, len(wide.Body))
	}
	checkDepth(t, deep.Body, many)
}

// checkDepth goes down in the lists of TestAnyDepth.
func checkDepth(t *testing.T, l []api.Stmt, many int) {
	t.Helper()
	for i := many - 1; i >= 0; i-- {
		if len(l) != 1 || l[0].Kind != api.STry || int(l[0].Num) != i {
			t.Fatal(i)
		}
		l = [][]api.Stmt{l[0].A, l[0].B, l[0].C}[i%3]
	}
	if len(l) != 1 || l[0].Kind != api.SThrow || len(l[0].E) != 1 {
		t.Fatal("the innermost statement")
	}
	exprs := l[0].E
	for i := many - 1; i >= 0; i-- {
		if len(exprs) != 1 || exprs[0].Kind != api.EUn || int(exprs[0].Num) != i {
			t.Fatal(i)
		}
		exprs = exprs[0].L
	}
	if len(exprs) != 1 || exprs[0].Kind != api.ENull || len(exprs[0].L) != 0 {
		t.Fatal("the innermost expression")
	}
}

// TestNoEnd is rule 1 of the document: what holds itself does not keep the calls that do not ask for it.
func TestNoEnd(t *testing.T) {
	p := of("A: int f, new", "B A: int f")
	round := make([]api.Stmt, 1)
	round[0] = api.Stmt{Kind: api.SWhile, A: round}
	p.Classes[0].Methods[0].Body = round
	checkCheck(t, p, api.OK, 0)
	checkTargets(t, "all", method.All(p, "B", "f"), "B 0")
	checkTargets(t, "new", method.Ctors(p, "A"), "A 1")
	checkTargets(t, "below", method.Below(p, to("A 0")), "B 0")
	got, is := method.Above(p, to("B 0"))
	checkOne(t, "above", got, is, "A 0")
	got, is = method.Find(p, "A", p.Classes[0].Methods[0])
	checkOne(t, "find", got, is, "A 0")
	if m, is := method.Get(p, to("A 1")); !is || !m.Ctor || !method.Same(p.Classes[0].Methods[0], p.Classes[1].Methods[0]) {
		t.Fatal(m, is)
	}
}

// nth is a name for each number.
func nth(i int) string { return "C" + strconv.Itoa(i) }

// TestManyClasses is rule 1 of the document: all calls end on very many classes in a row, each with methods of its own.
func TestManyClasses(t *testing.T) {
	const many = 200000
	var p api.Program
	for i := range many {
		p.Classes = append(p.Classes, api.Class{Name: nth(i), Super: nth(i + 1), Methods: []api.Method{{Type: nth(many - 1), Name: "f"}, {Ctor: true}, {Type: "int", Name: nth(i)}, {Type: "void", Name: "f", Params: []api.Param{{Type: nth(i)}}}}})
	}
	p.Classes[many-1].Super = "ZeroFault"
	checkCheck(t, p, api.OK, 0)
	if l := method.All(p, nth(0), "f"); len(l) != many+1 || l[0] != to("C0 0") || l[many] != (api.Target{Own: nth(many - 1), Nth: 3}) {
		t.Fatal(len(l))
	}
	end := api.Target{Own: nth(many - 1), Nth: 2}
	if x, is := method.Find(p, nth(0), api.Method{Name: nth(many - 1)}); !is || x != end {
		t.Fatal(x, is)
	}
	if x, is := method.Above(p, to("C0 0")); !is || x != to("C1 0") {
		t.Fatal(x, is)
	}
	if x, is := method.Above(p, to("C0 2")); is {
		t.Fatal(x)
	}
	if l := method.Below(p, api.Target{Own: nth(many - 1)}); len(l) != many-1 || l[0] != to("C0 0") || l[many-2].Own != nth(many-2) {
		t.Fatal(len(l))
	}
	if m, is := method.Get(p, end); !is || m.Name != nth(many-1) {
		t.Fatal(m, is)
	}
	checkManyWrong(t, p, many)
}

// checkManyWrong puts faults into the last classes, each one ahead of the others in what Check tells.
func checkManyWrong(t *testing.T, p api.Program, many int) {
	t.Helper()
	p.Classes[many-1].Methods[0].Type = "None"
	checkCheck(t, p, api.ErrOver, many-2)
	p.Classes[many-2].Methods[0].Type = "None"
	checkCheck(t, p, api.ErrOver, many-3)
	p.Classes[many/2].Methods[2] = api.Method{Ctor: true}
	checkCheck(t, p, api.ErrTwice, many/2)
	p.Classes[0].Methods[0].Static = true
	checkCheck(t, p, api.ErrOver, 0)
	p.Classes[many-1].Super = nth(0)
	checkCheck(t, p, api.ErrArg, 0)
	checkTargets(t, "all", method.All(p, nth(0), "f"), "")
}

// TestManyMethods is rule 1 of the document: all calls end on a class with very many methods of one Name, and on one method with very many parameters.
func TestManyMethods(t *testing.T) {
	const many = 200000
	p := of("B A: int f", "A")
	own := make([]api.Method, many)
	for i := range own {
		own[i] = api.Method{Ctor: i%4 == 3, Type: "ZeroFault", Name: "f", Params: []api.Param{{Type: []string{"A", "B"}[i%2]}, {Type: "int", Name: nth(i)}}}
		own[i].Params = append(own[i].Params, make([]api.Param, i%2)...)
	}
	p.Classes[1].Methods = own
	if l := method.All(p, "B", "f"); len(l) != 3 || l[2] != to("A 1") {
		t.Fatal(l)
	}
	if l := method.Ctors(p, "A"); len(l) != many/4 || l[many/4-1].Nth != many-1 {
		t.Fatal(len(l))
	}
	checkCheck(t, p, api.ErrTwice, 1)
	for i := range own {
		own[i] = api.Method{Type: "void", Name: "f", Params: []api.Param{{Type: nth(i)}}}
		p.Classes = append(p.Classes, api.Class{Name: nth(i)})
	}
	checkCheck(t, p, api.OK, 0)
	if l := method.All(p, "B", "f"); len(l) != many+1 || l[many].Nth != many-1 {
		t.Fatal(len(l))
	}
	params := make([]api.Param, many)
	for i := range params {
		params[i] = api.Param{Type: nth(i), Name: nth(i)}
	}
	own[many-1].Params = params
	checkCheck(t, p, api.OK, 0)
	params[many-1].Type = "void"
	checkCheck(t, p, api.ErrClass, 1)
	params[many-1].Name = nth(many / 2)
	checkCheck(t, p, api.ErrTwice, 1)
}
