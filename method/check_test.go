package method_test

import (
	"slices"
	"strings"
	"testing"

	"changeling/api"
	"changeling/kin"
	"changeling/method"
)

// TestCheckRight is promise 8.2: what is not wrong.
func TestCheckRight(t *testing.T) {
	checkCheck(t, api.Program{}, api.OK, 0)
	checkCheck(t, api.Program{Classes: []api.Class{}}, api.OK, 0)
	for _, s := range []string{
		"A",
		"A: void f, int f int a, A f A a, String f String a, boolean f boolean a, static void g, new, new int a, new A a",
		"A: void f int a int b, void f int a, void f A a int b, void f int a A b",
		"A NullFault: Exception a NullFault b CastFault c, ZeroFault a RangeFault b",
		"A: B f B b;B A: A f A a",
		"A: void f;B A: void f",
		"A: static int f;B A: static int f int a, static int f",
		"A: void f A a;B A: int f B b, static void f",
		"A: void f;B: int f, static void g;C: static void f, int g",
		"B: int f, int g;A: static void f",
		"A: void f;B A;C B: void f;D: int f",
		"A: new;B A: static new, new int a;C B: new int a int b, new int b",
		"A: int A int int, void int A B;B: int f int f int g",
		"A: new;A1: int new",
	} {
		checkCheck(t, of(strings.Split(s, ";")...), api.OK, 0)
	}
}

// TestCheckTwice is promise 8.2: one ahead is Same, or two parameters have one Name.
func TestCheckTwice(t *testing.T) {
	for _, s := range []string{
		"int f, int f",
		"int f, int g, void f",
		"int f int a, static A f int b",
		"int f int a A b, int f A a int b, int f int b A a",
		"new, new",
		"new int a, new, int f, new int b",
		"void f int a int a",
		"void f int a, void g A a B b int a",
		"void f int a B b A b",
		"new A x A y A x",
		"static void f int f int f",
	} {
		checkCheck(t, of("A: "+s, "B"), api.ErrTwice, 0)
		checkCheck(t, of("B A: int f, new", "A: int f, new", "C A: "+s, "D: "+s), api.ErrTwice, 2)
	}
	// A constructor and a method are never twice, even if both had no name.
	checkCheck(t, of("A: new int a, int - int a"), api.OK, 0)
	checkCheck(t, of("A: int - int a, new int a, void - int b"), api.ErrTwice, 0)
	// A constructor that has a Name is Same only to one that has it, too.
	p := of("A: new int a, new int a")
	p.Classes[0].Methods[0].Name = "k"
	checkCheck(t, p, api.OK, 0)
	p.Classes[0].Methods[1].Name = "k"
	checkCheck(t, p, api.ErrTwice, 0)
}

// TestCheckClass is promise 8.2: a Type that is none, of a method and of parameters.
func TestCheckClass(t *testing.T) {
	own := []string{"@ f", "int f, static @ g int a"}
	params := []string{"void f @ a", "void f int a A b @ c", "new @ a", "new, new int a @ b A c", "static void f @ a"}
	for _, s := range []string{"None", "null", "a", "Int", "string", "bool", "f", "AA", "Exceptions", "\xff", "int\x00", "-", "int[]", "void"} {
		l := params
		if s != "void" {
			l = slices.Concat(own, params)
		}
		for _, m := range l {
			m = strings.ReplaceAll(m, "@", s)
			checkCheck(t, of("A: "+m, "B: "+m), api.ErrClass, 0)
			checkCheck(t, of("A: int h, B h A a", "B A: static int i, "+m), api.ErrClass, 1)
		}
	}
	// A constructor's own Type is not asked.
	p := of("A: new, new int a")
	p.Classes[0].Methods[0].Type, p.Classes[0].Methods[1].Type = "None", "void"
	checkCheck(t, p, api.OK, 0)
	// A class may have any name.
	checkCheck(t, of("void: void f void a", "null: null f null b"), api.OK, 0)
}

// TestCheckOver is promise 8.2: what is above has another Type, or another Static.
func TestCheckOver(t *testing.T) {
	for _, s := range [][2]string{
		{"void f", "int f"}, {"int f", "void f"}, {"int f", "A f"}, {"A f", "B f"}, {"B f", "A f"}, {"Exception f", "ZeroFault f"},
		{"void f", "static void f"}, {"static void f", "void f"}, {"static int f", "static void f"}, {"static int f", "int f"},
		{"int g, void f int a, int f", "int h, new, int f int b"},
	} {
		checkCheck(t, of("A: "+s[0], "B A: "+s[1]), api.ErrOver, 1)
		checkCheck(t, of("B A: "+s[1], "A: "+s[0]), api.ErrOver, 0)
		checkCheck(t, of("A: "+s[0], "B A", "C A: "+s[0], "D B", "E C", "F D: "+s[1]), api.ErrOver, 5)
		checkCheck(t, of("A: "+s[0], "B", "C B: "+s[1]), api.OK, 0)
		checkCheck(t, of("A: "+s[0], "B A: "+s[0], "C B: "+s[0]), api.OK, 0)
	}
	// The nearest one counts, and of two in one class the first one.
	checkCheck(t, of("A: void f", "B A: int f", "C B: int f"), api.ErrOver, 1)
	checkCheck(t, of("C B: int f", "B A: int f", "A: void f"), api.ErrOver, 1)
	checkCheck(t, of("C B: void f", "B A: int f", "A: void f"), api.ErrOver, 0)
	checkCheck(t, of("B A: int f", "A: int f, void f"), api.ErrTwice, 1)
	checkCheck(t, of("B A: void f", "A: int f, void f"), api.ErrOver, 0)
	checkCheck(t, of("C B: static int f", "B A: static int f, int f", "A: int f, static int f"), api.ErrOver, 1)
	// Constructors stand in for nothing.
	p := of("A: int - int a, new, new int a", "B A: new int a, new, static new A a")
	checkCheck(t, p, api.OK, 0)
	for i := range p.Classes {
		for k := range p.Classes[i].Methods {
			p.Classes[i].Methods[k].Name = "k"
		}
	}
	checkCheck(t, p, api.OK, 0)
}

// TestCheckTurns is promise 8.2: class by class, within one method by method, and of one method ErrTwice, ErrClass, ErrOver.
func TestCheckTurns(t *testing.T) {
	checkCheck(t, of("A: None f, int f"), api.ErrClass, 0)
	checkCheck(t, of("A: int f, None f"), api.ErrTwice, 0)
	checkCheck(t, of("A: None g, int f, int f"), api.ErrClass, 0)
	checkCheck(t, of("A: void f None a int a"), api.ErrTwice, 0)
	checkCheck(t, of("A: void f int a, void g None a, void h int a int a"), api.ErrClass, 0)
	checkCheck(t, of("A: new None a, new None a"), api.ErrClass, 0)
	checkCheck(t, of("A: int f", "B A: void f, None g, int g"), api.ErrOver, 1)
	checkCheck(t, of("A: int f", "B A: None g, int g, void f"), api.ErrClass, 1)
	checkCheck(t, of("A: int f", "B A: int g, void g, void f"), api.ErrTwice, 1)
	checkCheck(t, of("A: int f", "B A: None f"), api.ErrClass, 1)
	checkCheck(t, of("A: int f None a", "B A: void f None b"), api.ErrClass, 0)
	checkCheck(t, of("B A: void f None b", "A: int f None a"), api.ErrClass, 0)
	checkCheck(t, of("B A: void f int a int a", "A: int f int a int b"), api.ErrTwice, 0)
	checkCheck(t, of("A: int f", "B A: int f, void f"), api.ErrTwice, 1)
	checkCheck(t, of("A: int f", "B A: void f, void f"), api.ErrOver, 1)
	checkCheck(t, of("B A: void f", "A: None f"), api.ErrOver, 0)
	checkCheck(t, of("A: int f", "B: None x", "C: int y, int y"), api.ErrClass, 1)
	checkCheck(t, of("A: int f", "B A: int f", "C A: void f", "D: int y, int y"), api.ErrOver, 2)
}

// TestWrongClasses is promises 8.1 and 8.2, where kin.Check finds a fault, in whatever class: nothing, false, ErrArg.
func TestWrongClasses(t *testing.T) {
	l := []api.Program{}
	for code, p := range wrong() {
		if got, _ := kin.Check(p); got != code {
			t.Fatal(code, got)
		}
		l = append(l, p)
	}
	for _, s := range bases {
		l = append(l, of(s+": int f, new", "A: int f, new", "B A: int f"))
	}
	for _, p := range l {
		for _, class := range slices.Concat([]string{"B", "C", "D"}, odd, bases) {
			checkNothing(t, p, class)
		}
		checkCheck(t, p, api.ErrArg, 0)
		// What is wrong in the methods is not told, and not which class it is.
		p.Classes[1].Methods = append(p.Classes[1].Methods, p.Classes[1].Methods...)
		p.Classes[0].Methods[0].Type = "None"
		checkCheck(t, p, api.ErrArg, 0)
	}
}

// checkNothing holds that nothing is told of that class of p.
func checkNothing(t *testing.T, p api.Program, class string) {
	t.Helper()
	for _, s := range []string{"f", "g", "-"} {
		checkTargets(t, class, method.All(p, class, plain(s)), "")
		got, is := method.Find(p, class, mk("int "+s))
		checkOne(t, class, got, is, "")
	}
	checkTargets(t, class, method.Ctors(p, class), "")
	for i := -1; i < 3; i++ {
		x := api.Target{Own: class, Nth: i}
		checkNoGet(t, p, x)
		got, is := method.Above(p, x)
		checkOne(t, class, got, is, "")
		checkTargets(t, class, method.Below(p, x), "")
	}
}

// TestWrongMethods is promise 8.1, where Check finds a fault: the other calls ask for nothing but kin.Check.
func TestWrongMethods(t *testing.T) {
	p := of("A: None f, int g int a int a, new None a, new None b", "B A: static void f, A g int a None b")
	checkCheck(t, p, api.ErrClass, 0)
	checkTargets(t, "f", method.All(p, "B", "f"), "B 0")
	checkTargets(t, "g", method.All(p, "B", "g"), "B 1, A 1")
	checkTargets(t, "new", method.Ctors(p, "A"), "A 2, A 3")
	checkTargets(t, "below", method.Below(p, to("A 0")), "B 0")
	got, is := method.Above(p, to("B 0"))
	checkOne(t, "above", got, is, "A 0")
	got, is = method.Find(p, "B", mk("void g int a None b"))
	checkOne(t, "find", got, is, "B 1")
	if m, is := method.Get(p, to("A 3")); !is || m.Params[0].Type != "None" {
		t.Fatal(m, is)
	}
}

// TestNames is promises 8.1 and 8.2 of classes and methods with names that no plain program has: they are found as any.
func TestNames(t *testing.T) {
	p := of("A B: int - int a, int f", "int A: A int A -, int - int b", "B: null f, void -, new", "null: int \xff, static void null")
	checkTargets(t, "", method.All(p, "int", ""), "int 1, B 1")
	checkTargets(t, "f", method.All(p, "int", "f"), "A 1")
	checkTargets(t, "\xff", method.All(p, "null", "\xff"), "null 0")
	checkTargets(t, "new", method.Ctors(p, "null"), "null -1")
	checkTargets(t, "below", method.Below(p, to("A 0")), "int 1")
	got, is := method.Above(p, to("A 1"))
	checkOne(t, "above", got, is, "B 0")
	got, is = method.Find(p, "A", mk("int -"))
	checkOne(t, "find", got, is, "B 1")
	got, is = method.Find(p, "B", mk("new"))
	checkOne(t, "a constructor is no method without a name", got, is, "")
	checkCheck(t, p, api.ErrOver, 0)
	p.Classes[0].Methods[1].Type = "null"
	checkCheck(t, p, api.OK, 0)
}

// TestNameless is promise 8.1: a constructor is no method, not even where a method has no Name, as it has none.
func TestNameless(t *testing.T) {
	p := of("A: int -, new, new int a", "B A: new, int - int a, new int a")
	checkTargets(t, "all", method.All(p, "B", ""), "B 1, A 0")
	for _, s := range []string{"B 0", "B 1", "B 2"} {
		got, is := method.Above(p, to(s))
		checkOne(t, s, got, is, "")
	}
	for _, s := range []string{"A 0", "A 1", "A 2"} {
		checkTargets(t, s, method.Below(p, to(s)), "")
	}
	checkCheck(t, p, api.OK, 0)
}

// TestEmptyName is promises 8.1 and 8.2 where a class has the empty name: by 6.1 it is the Super of all that have an empty one.
func TestEmptyName(t *testing.T) {
	p := of("B: int f, int g", "-: int f, int f int a", "D: int f int a, void h")
	checkTargets(t, "B", method.All(p, "B", "f"), "B 0, - 1")
	checkTargets(t, "-", method.All(p, "", "f"), "- 0, - 1")
	checkTargets(t, "-", method.Ctors(p, ""), "- -1")
	checkTargets(t, "-", method.Below(p, to("- 0")), "B 0")
	got, is := method.Above(p, to("D 0"))
	checkOne(t, "D", got, is, "- 1")
	got, is = method.Above(p, to("- 0"))
	checkOne(t, "-", got, is, "")
	if m, is := method.Get(p, to("- 1")); !is || len(m.Params) != 1 {
		t.Fatal(m, is)
	}
	checkCheck(t, p, api.OK, 0)
	checkCheck(t, of("-: int f", "A: void f"), api.ErrOver, 1)
	checkCheck(t, of("A: void f", "-: int f"), api.ErrOver, 0)
	checkCheck(t, of("-: int f", "A: int f"), api.OK, 0)
	// kin.Check finds a ring, where a class that has a Super comes to it.
	checkNothing(t, of("B: int f", "-: int f", "D B: int f"), "B")
}
