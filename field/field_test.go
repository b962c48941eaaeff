package field_test

import (
	"math"
	"reflect"
	"slices"
	"strings"
	"testing"

	"changeling/api"
	"changeling/field"
	"changeling/kin"
)

// of is a program of those classes, each told as "Name", "Name Super" or "Name Super: int a, static A b" (a "-" is the empty text).
func of(classes ...string) api.Program {
	var p api.Program
	for _, s := range classes {
		head, members, _ := strings.Cut(strings.ReplaceAll(s, "-", ""), ":")
		name, super, _ := strings.Cut(head, " ")
		c := api.Class{Name: name, Super: super}
		for f := range strings.SplitSeq(members, ",") {
			rest, static := strings.CutPrefix(strings.TrimPrefix(f, " "), "static ")
			if typ, name, is := strings.Cut(rest, " "); is {
				c.Fields = append(c.Fields, api.Field{Static: static, Type: typ, Name: name})
			}
		}
		p.Classes = append(p.Classes, c)
	}
	return p
}

// odd are texts that no plain program has as a class, and none of these here as a field.
var odd = []string{"", "A", "int", "boolean", "String", "void", "null", "this", "X ", " x", "xx", "\xff", "x\x00", "Exception", "NullFault", "None"}

// bases are the classes that are in no program.
var bases = []string{"Exception", "NullFault", "CastFault", "ZeroFault", "RangeFault"}

// wrong are programs in which kin finds a class that is wrong, each by another one of its faults, beside classes that are right.
func wrong() map[int]api.Program {
	right := []string{"A: int x, static int s, int y", "B A: int x"}
	return map[int]api.Program{
		api.ErrTwice: of(append(right, "C: int x", "C")...),
		api.ErrClass: of(append(right, "C None: int x")...),
		api.ErrCycle: of(append(right, "C D: int x", "D C: int x")...),
	}
}

func checkFind(t *testing.T, p api.Program, class, name string, wantIs bool, want api.Target) {
	t.Helper()
	if got, is := field.Find(p, class, name); is != wantIs || got != want {
		t.Fatalf("Find of %q, %q in %v is %v, %v, not %v, %v", class, name, p, got, is, want, wantIs)
	}
}

func checkAll(t *testing.T, p api.Program, class string, want ...api.Target) {
	t.Helper()
	if got := field.All(p, class); !slices.Equal(got, want) {
		t.Fatalf("All of %q in %v are %v, not %v", class, p, got, want)
	}
}

func checkCheck(t *testing.T, p api.Program, wantCode, wantAt int) {
	t.Helper()
	if code, at := field.Check(p); code != wantCode || at != wantAt {
		t.Fatalf("Check of %v is %d, %d, not %d, %d", p, code, at, wantCode, wantAt)
	}
}

// checkNothing holds that there is no field of that name in that class of p, nor in its Chain.
func checkNothing(t *testing.T, p api.Program, class, name string) {
	t.Helper()
	if field.Own(p, class, name) != -1 || field.Hides(p, class, name) {
		t.Fatalf("%q, %q in %v", class, name, p)
	}
	checkFind(t, p, class, name, false, api.Target{})
}

// TestOwn is promise 7.1: its place in the class itself, Static or not; -1.
func TestOwn(t *testing.T) {
	p := of("C B: int z", "B A: int x, static A y, String w", "A: int z, boolean x", "E")
	for class, want := range map[string]map[string]int{
		"A": {"z": 0, "x": 1, "y": -1, "w": -1},
		"B": {"z": -1, "x": 0, "y": 1, "w": 2},
		"C": {"z": 0, "x": -1, "y": -1, "w": -1},
		"E": {"z": -1, "x": -1, "y": -1, "w": -1},
		"D": {"z": -1, "x": -1, "y": -1, "w": -1},
	} {
		for name, nth := range want {
			if got := field.Own(p, class, name); got != nth {
				t.Fatal(class, name, got)
			}
		}
	}
	for _, s := range append([]string{"X", "y ", "Y"}, odd...) {
		if field.Own(p, "A", s) != -1 || s != "A" && field.Own(p, s, "x") != -1 || field.Own(api.Program{}, s, s) != -1 {
			t.Fatal(s)
		}
	}
	// Where two have one name, the first one is meant, as always where a name is sought.
	if two := of("A: int a, int x, A x, static int x"); field.Own(two, "A", "x") != 1 {
		t.Fatal("two of one name")
	}
}

// TestFind is promise 7.1: the first class of the Chain that has it, wherever it stands in the program.
func TestFind(t *testing.T) {
	p := of("C B: int z", "B A: int x, static A y", "A: int w, int z, boolean x", "F ZeroFault: int x", "E", "G E: int x")
	for _, x := range []struct {
		class, name, own string
		nth              int
	}{
		{"A", "w", "A", 0}, {"A", "z", "A", 1}, {"A", "x", "A", 2},
		{"B", "w", "A", 0}, {"B", "z", "A", 1}, {"B", "x", "B", 0}, {"B", "y", "B", 1},
		{"C", "w", "A", 0}, {"C", "z", "C", 0}, {"C", "x", "B", 0}, {"C", "y", "B", 1},
		{"F", "x", "F", 0}, {"G", "x", "G", 0},
	} {
		checkFind(t, p, x.class, x.name, true, api.Target{Own: x.own, Nth: x.nth})
	}
	for _, x := range [][2]string{{"A", "y"}, {"F", "y"}, {"E", "x"}, {"G", "w"}, {"D", "x"}, {"", "x"}, {"", ""}, {"A", "X"}} {
		checkNothing(t, p, x[0], x[1])
	}
	for _, s := range odd {
		checkNothing(t, p, "C", s)
		checkNothing(t, api.Program{}, s, s)
		if s != "A" {
			checkNothing(t, p, s, "x")
		}
	}
	checkFind(t, of("A: int a, int x, A x", "B A"), "B", "x", true, api.Target{Own: "A", Nth: 1})
}

// full is a field of which no part is empty, with an Init that has each part of an expression, three deep.
func full(name string) api.Field {
	e := api.Expr{Kind: api.EField, Num: -7, Text: "text of " + name, Name: "name of " + name, Type: "type of " + name, Own: "own of " + name, Nth: 4}
	two := e
	two.Kind, two.L = api.EBin, []api.Expr{e, {Kind: api.EUn, L: []api.Expr{e}}, e}
	top := e
	top.Nth, top.L = -1, []api.Expr{two, e, two}
	return api.Field{Static: true, Type: "field type of " + name, Name: name, Init: []api.Expr{top, e}}
}

// TestGet is promise 7.1: that field, in all its parts; nothing at a place that is none.
func TestGet(t *testing.T) {
	p := of("C B: int z", "B A: int x, static A y, None x", "A", "Z ZeroFault: int x")
	p.Classes[2].Fields = []api.Field{full("a"), {Name: "b"}, full("c"), {}}
	for _, c := range p.Classes {
		for i, want := range c.Fields {
			if got, is := field.Get(p, api.Target{Own: c.Name, Nth: i}); !is || !reflect.DeepEqual(got, want) {
				t.Fatal(c.Name, i, got, is)
			}
		}
		for _, i := range []int{-1, len(c.Fields), len(c.Fields) + 1, -len(c.Fields) - 1, math.MaxInt, math.MinInt, 1 << 32, -1 << 32} {
			checkNoGet(t, p, api.Target{Own: c.Name, Nth: i})
		}
	}
	for _, s := range append([]string{"D", "a"}, odd...) {
		for i := -1; i < 3; i++ {
			checkNoGet(t, api.Program{}, api.Target{Own: s, Nth: i})
			if s != "A" {
				checkNoGet(t, p, api.Target{Own: s, Nth: i})
			}
		}
	}
}

func checkNoGet(t *testing.T, p api.Program, at api.Target) {
	t.Helper()
	if got, is := field.Get(p, at); is || !reflect.DeepEqual(got, api.Field{}) {
		t.Fatalf("Get of %v in %v is %v, %v", at, p, got, is)
	}
}

// TestAll is promise 7.1: the outermost Super's first, each class's in its order, without Static ones; those that are hidden are there, too.
func TestAll(t *testing.T) {
	p := of("C B: int z, static int u, A w", "B A: static int x, static A y", "A: int w, int z, static boolean x, String z", "F ZeroFault: int x", "E", "G E: int x", "H C: int w", "I A: int w")
	a := []api.Target{{Own: "A"}, {Own: "A", Nth: 1}, {Own: "A", Nth: 3}}
	c := append(slices.Clone(a), api.Target{Own: "C"}, api.Target{Own: "C", Nth: 2})
	checkAll(t, p, "A", a...)
	checkAll(t, p, "B", a...)
	checkAll(t, p, "C", c...)
	checkAll(t, p, "H", append(c, api.Target{Own: "H"})...)
	checkAll(t, p, "I", append(a, api.Target{Own: "I"})...)
	checkAll(t, p, "F", api.Target{Own: "F"})
	checkAll(t, p, "G", api.Target{Own: "G"})
	checkAll(t, p, "E")
	for _, s := range append([]string{"D", "w"}, odd...) {
		checkAll(t, api.Program{}, s)
		if s != "A" {
			checkAll(t, p, s)
		}
	}
}

// TestHides is promises 7.1 and 7.3: the class itself has it, and one behind it, Static or not, of one Type or not.
func TestHides(t *testing.T) {
	p := of("C B: int w, int x, int n", "B A: static int x, A y, int m", "A: int w, int x, static int y", "D: int w, int x, int w", "E A: boolean w", "F Exception: int w")
	want := []string{"C w", "C x", "B x", "B y", "E w"}
	for _, class := range append([]string{"B", "C", "D", "E", "F", "G"}, odd...) {
		for _, name := range append([]string{"w", "x", "y", "n", "m", "z"}, odd...) {
			if got := field.Hides(p, class, name); got != slices.Contains(want, class+" "+name) {
				t.Fatal(class, name, got)
			}
			if field.Hides(api.Program{}, class, name) {
				t.Fatal(class, name)
			}
		}
	}
}

// TestCheck is promise 7.2: each code, the first class that is wrong, and which of two faults is told.
func TestCheck(t *testing.T) {
	for _, s := range []string{"", "A", "A: int x", "A: int x, A y, String s, boolean b", "A: B x;B A: A x, static A y", "A: int x;B A: String x", "A NullFault: Exception a, NullFault b, CastFault c, ZeroFault d, RangeFault e", "A: int a, int A, int int"} {
		checkCheck(t, of(strings.Split(s, ";")...), api.OK, 0)
	}
	checkCheck(t, api.Program{}, api.OK, 0)
	checkCheck(t, api.Program{Classes: []api.Class{}}, api.OK, 0)
	for _, s := range []string{"int x, int x", "int x, int y, A x", "static int x, int x", "int x, static A y, static B y", "int a, int b, int c, int b", "int , A "} {
		checkCheck(t, of("A: "+s, "B"), api.ErrTwice, 0)
		checkCheck(t, of("B A: int x, int y", "A: int x, int y", "C A: "+s, "D"), api.ErrTwice, 2)
	}
	for _, s := range []string{"None", "void", "null", "a", "Int", "string", "bool", "x", "AA", "Exceptions", "\xff", "int\x00", "", "int[]"} {
		checkCheck(t, of("A: int x, B y, "+s+" z, int w", "B"), api.ErrClass, 0)
		checkCheck(t, of("A: int x, B y", "B A: static "+s+" x", "C: "+s+" x"), api.ErrClass, 1)
	}
}

// TestCheckTurns is promise 7.2: class by class, and within one the name that is there twice first.
func TestCheckTurns(t *testing.T) {
	checkCheck(t, of("A: None x, int y, int y"), api.ErrTwice, 0)
	checkCheck(t, of("A: int x, None x"), api.ErrTwice, 0)
	checkCheck(t, of("A: int x", "B: None x", "C: int y, int y"), api.ErrClass, 1)
	checkCheck(t, of("A: int x", "B: int y, int y", "C: None x"), api.ErrTwice, 1)
	checkCheck(t, of("A: int y, int y", "B", "C: int y, int y"), api.ErrTwice, 0)
}

// TestWrongClasses is promises 7.1 and 7.2, where kin.Check finds a fault, in whatever class: -1, false, nothing, ErrArg.
func TestWrongClasses(t *testing.T) {
	for code, p := range wrong() {
		if got, _ := kin.Check(p); got != code {
			t.Fatal(code, got)
		}
		for _, class := range append([]string{"B", "C", "D"}, odd...) {
			checkNothing(t, p, class, "x")
			checkNothing(t, p, class, "y")
			checkAll(t, p, class)
			checkNoGet(t, p, api.Target{Own: class})
		}
		checkCheck(t, p, api.ErrArg, 0)
		// What is wrong in the fields is not told, and not which class it is.
		p.Classes[1].Fields = append(p.Classes[1].Fields, p.Classes[1].Fields...)
		p.Classes[0].Fields[0].Type = "None"
		checkCheck(t, p, api.ErrArg, 0)
	}
	for _, s := range bases {
		p := of(s+": int x", "A: int x")
		for _, class := range []string{s, "A"} {
			checkNothing(t, p, class, "x")
			checkAll(t, p, class)
			checkNoGet(t, p, api.Target{Own: class})
		}
		checkCheck(t, p, api.ErrArg, 0)
	}
}

// TestWrongFields is promise 7.1, where Check finds a fault: it asks for nothing but kin.Check.
func TestWrongFields(t *testing.T) {
	p := of("A: None x, int y, int y", "B A: void y, int z")
	checkFind(t, p, "B", "x", true, api.Target{Own: "A"})
	checkFind(t, p, "B", "y", true, api.Target{Own: "B"})
	checkAll(t, p, "B", api.Target{Own: "A"}, api.Target{Own: "A", Nth: 1}, api.Target{Own: "A", Nth: 2}, api.Target{Own: "B"}, api.Target{Own: "B", Nth: 1})
	if f, is := field.Get(p, api.Target{Own: "A", Nth: 2}); !is || f.Name != "y" || !field.Hides(p, "B", "y") || field.Own(p, "A", "y") != 1 {
		t.Fatal(f, is)
	}
}

// TestNames is promise 7.1 of classes and fields with names that no plain program has: they are found as any.
func TestNames(t *testing.T) {
	p := of("A B: int , int x", "int A: A int, int x", "B: null x, int y", "null: int \xff")
	checkFind(t, p, "A", "", true, api.Target{Own: "A"})
	checkFind(t, p, "A", "x", true, api.Target{Own: "A", Nth: 1})
	checkFind(t, p, "int", "int", true, api.Target{Own: "int"})
	checkFind(t, p, "int", "", true, api.Target{Own: "A"})
	checkFind(t, p, "null", "\xff", true, api.Target{Own: "null"})
	if !field.Hides(p, "int", "x") || field.Hides(p, "int", "") || field.Own(p, "null", "\xff") != 0 {
		t.Fatal("Hides")
	}
	checkCheck(t, p, api.OK, 0)
	checkCheck(t, of("-: - x"), api.OK, 0)
	checkCheck(t, of("-", "void: void x"), api.OK, 0)
}

// TestEmptyName is promise 7.1 where a class has the empty name: by 6.1 it is the Super of all that have an empty one.
func TestEmptyName(t *testing.T) {
	p := of("B: int x, int y", "-: int a, int x", "D: int b")
	checkFind(t, p, "B", "a", true, api.Target{})
	checkFind(t, p, "D", "x", true, api.Target{Nth: 1})
	checkFind(t, p, "", "x", true, api.Target{Nth: 1})
	checkFind(t, p, "", "y", false, api.Target{})
	checkAll(t, p, "B", api.Target{}, api.Target{Nth: 1}, api.Target{Own: "B"}, api.Target{Own: "B", Nth: 1})
	checkAll(t, p, "", api.Target{}, api.Target{Nth: 1})
	if f, is := field.Get(p, api.Target{Nth: 1}); !is || f.Name != "x" || !field.Hides(p, "B", "x") || field.Hides(p, "", "x") || field.Own(p, "", "a") != 0 {
		t.Fatal(f, is)
	}
	checkCheck(t, p, api.OK, 0)
	// kin.Check finds a ring, where a class that has a Super comes to it.
	checkNothing(t, of("B: int x", "-: int x", "D B: int x"), "B", "x")
}
