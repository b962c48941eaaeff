package method_test

import (
	"math"
	"reflect"
	"slices"
	"strings"
	"testing"

	"changeling/api"
	"changeling/method"
)

// of is a program of those classes, each told as "Name", "Name Super" or "Name Super: int f, static void g int a A b, new int a" (a "-" is the empty text).
func of(classes ...string) api.Program {
	var p api.Program
	for _, s := range classes {
		head, members, _ := strings.Cut(s, ":")
		name, super, _ := strings.Cut(head, " ")
		c := api.Class{Name: plain(name), Super: plain(super)}
		for m := range strings.SplitSeq(members, ",") {
			if words := strings.Fields(m); len(words) > 0 {
				c.Methods = append(c.Methods, member(words))
			}
		}
		p.Classes = append(p.Classes, c)
	}
	return p
}

func plain(s string) string {
	if s == "-" {
		return ""
	}
	return s
}

// member is a method told by its words, or, with "new" ahead, a constructor.
func member(words []string) api.Method {
	var m api.Method
	if words[0] == "static" {
		m.Static, words = true, words[1:]
	}
	if words[0] == "new" {
		m.Ctor, words = true, words[1:]
	} else {
		m.Type, m.Name, words = plain(words[0]), plain(words[1]), words[2:]
	}
	for ; len(words) > 1; words = words[2:] {
		m.Params = append(m.Params, api.Param{Type: plain(words[0]), Name: plain(words[1])})
	}
	return m
}

// mk is the method, or constructor, told by a text.
func mk(s string) api.Method { return member(strings.Fields(s)) }

// to is the Target told as "Own Nth": "A 1", with a Nth from -1 to 9.
func to(s string) api.Target {
	own, nth, _ := strings.Cut(s, " ")
	if nth == "-1" {
		return api.Target{Own: plain(own), Nth: -1}
	}
	return api.Target{Own: plain(own), Nth: int(nth[0] - '0')}
}

// each is the Targets told by a text, with commas between.
func each(s string) []api.Target {
	var l []api.Target
	for one := range strings.SplitSeq(s, ", ") {
		if one != "" {
			l = append(l, to(one))
		}
	}
	return l
}

// odd are texts that no plain program has as a class, and none of these here as a method.
var odd = []string{"", "A", "int", "boolean", "String", "void", "null", "this", "new", "F ", " f", "ff", "\xff", "f\x00", "Exception", "NullFault", "None"}

// bases are the classes that are in no program.
var bases = []string{"Exception", "NullFault", "CastFault", "ZeroFault", "RangeFault"}

// wrong are programs in which kin finds a class that is wrong, each by another one of its faults, beside classes that are right.
func wrong() map[int]api.Program {
	right := []string{"A: int f, new, static int g", "B A: int f, new"}
	return map[int]api.Program{
		api.ErrTwice: of(append(right, "C B: int f", "C")...),
		api.ErrClass: of(append(right, "C None: int f")...),
		api.ErrCycle: of(append(right, "C D: int f", "D C: int f")...),
	}
}

func checkTargets(t *testing.T, what string, got []api.Target, want string) {
	t.Helper()
	if !slices.Equal(got, each(want)) {
		t.Fatalf("%s is %v, not %s", what, got, want)
	}
}

// checkOne holds an answer against the Target that is told, or against false beside the empty text.
func checkOne(t *testing.T, what string, got api.Target, is bool, want string) {
	t.Helper()
	if is != (want != "") || is && got != to(want) || !is && got != (api.Target{}) {
		t.Fatalf("%s is %v, %v, not %q", what, got, is, want)
	}
}

func checkCheck(t *testing.T, p api.Program, wantCode, wantAt int) {
	t.Helper()
	if code, at := method.Check(p); code != wantCode || at != wantAt {
		t.Fatalf("Check of %v is %d, %d, not %d, %d", p, code, at, wantCode, wantAt)
	}
}

// TestSame is promise 8.1: one Name and the same Types, in their turn; nothing else counts.
func TestSame(t *testing.T) {
	groups := [][]string{
		{"int f", "void f", "static A f"},
		{"int f int a", "A f int b", "static void f int f"},
		{"int f A a", "int f A A"},
		{"int f int a int b", "void f int b int a", "int f int a int a"},
		{"int f int a A b", "int f int b A a"},
		{"int f A a int b"},
		{"int f int a int b int c"},
		{"int g"}, {"int g int a"}, {"int F"}, {"int ff"},
		{"int f inta a"}, {"int fint int a"}, {"int f - a", "int f - b"}, {"int f - a - b"}, {"int - int a"}, {"int - f a"},
		{"new", "static new", "int -"},
		{"new A a", "new A b"},
	}
	for i, one := range groups {
		for k, other := range groups {
			for _, a := range one {
				for _, b := range other {
					if method.Same(mk(a), mk(b)) != (i == k) {
						t.Fatal(a, b)
					}
				}
			}
		}
	}
	a, b := mk("int f int a"), mk("int f int a")
	b.Body = []api.Stmt{{Kind: api.SReturn}}
	if !method.Same(a, b) || !method.Same(api.Method{}, api.Method{Params: []api.Param{}}) {
		t.Fatal("the Body, an empty list")
	}
}

// full is a method of which no part is empty, with a Body that has each part of statements and expressions, three deep.
func full(name string) api.Method {
	e := api.Expr{Kind: api.EField, Num: -7, Text: "text of " + name, Name: "name of " + name, Type: "type of " + name, Own: "own of " + name, Nth: 4}
	two := e
	two.Kind, two.L = api.EBin, []api.Expr{e, {Kind: api.EUn, L: []api.Expr{e}}, e}
	s := api.Stmt{Kind: api.STry, Num: 9, Type: "a type of " + name, Name: "a name of " + name, E: []api.Expr{two, e, two}, Nth: 2}
	in := s
	in.A, in.B, in.C = []api.Stmt{s}, []api.Stmt{s, s}, []api.Stmt{{}, s}
	top := s
	top.Nth, top.A, top.B, top.C = -1, []api.Stmt{in, s}, []api.Stmt{in}, []api.Stmt{s, in}
	return api.Method{Static: true, Type: "own type of " + name, Name: name, Params: []api.Param{{Type: "first of " + name, Name: "x"}, {Type: "second of " + name, Name: "y"}}, Body: []api.Stmt{top, s, top}}
}

func checkNoGet(t *testing.T, p api.Program, at api.Target) {
	t.Helper()
	if got, is := method.Get(p, at); is || !reflect.DeepEqual(got, api.Method{}) {
		t.Fatalf("Get of %v in %v is %v, %v", at, p, got, is)
	}
}

// TestGet is promise 8.1: that method or constructor, in all its parts; nothing at a place that is none.
func TestGet(t *testing.T) {
	p := of("C B: int f", "B A: new, int f int a, None f int a, new A a", "A", "Z ZeroFault: new", "E")
	ctor := full("")
	ctor.Ctor = true
	p.Classes[2].Methods = []api.Method{full("a"), {Name: "b"}, ctor, {}, full("c")}
	for _, c := range p.Classes {
		for i, want := range c.Methods {
			if got, is := method.Get(p, api.Target{Own: c.Name, Nth: i}); !is || !reflect.DeepEqual(got, want) {
				t.Fatal(c.Name, i, got, is)
			}
		}
		n := len(c.Methods)
		for _, i := range []int{-1, n, n + 1, -n - 1, math.MaxInt, math.MinInt, 1 << 32, -1 << 32} {
			checkNoGet(t, p, api.Target{Own: c.Name, Nth: i})
		}
	}
	for _, s := range append([]string{"D", "f"}, odd...) {
		for i := -1; i < 3; i++ {
			checkNoGet(t, api.Program{}, api.Target{Own: s, Nth: i})
			if s != "A" {
				checkNoGet(t, p, api.Target{Own: s, Nth: i})
			}
		}
	}
}

// TestAll is promise 8.1: of the class and its Chain, its own first, without those to which one ahead is Same, wherever it stands.
func TestAll(t *testing.T) {
	p := of("C B: int f A x, new, int g, void f", "B A: int f int b, static void g int a, new int a, void f", "A: new, int f int a, int f A a, static void g, int f C a", "F ZeroFault: int f", "E", "G E: int f, int f int a", "H A: int g")
	for class, want := range map[string][2]string{
		"A": {"A 1, A 2, A 4", "A 3"},
		"B": {"B 0, B 3, A 2, A 4", "B 1, A 3"},
		"C": {"C 0, C 3, B 0, A 4", "C 2, B 1"},
		"F": {"F 0", ""},
		"E": {"", ""},
		"G": {"G 0, G 1", ""},
		"H": {"A 1, A 2, A 4", "H 0"},
		"D": {"", ""},
	} {
		checkTargets(t, class+" f", method.All(p, class, "f"), want[0])
		checkTargets(t, class+" g", method.All(p, class, "g"), want[1])
		for _, s := range append([]string{"F", "C", "new"}, odd...) {
			checkTargets(t, class+" "+s, method.All(p, class, s), "")
		}
	}
	for _, s := range odd {
		checkTargets(t, s, method.All(api.Program{}, s, "f"), "")
		if s != "A" {
			checkTargets(t, s, method.All(p, s, "f"), "")
		}
	}
	// Of two in one class the first one is told.
	checkTargets(t, "two", method.All(of("A: int f, void f, int f int a, static int f", "B A: int f A a, A f A b"), "B", "f"), "B 0, A 0, A 2")
}

// TestCtors is promise 8.1: the class's own ones, those that are Same, too; of a class without any, and of base ones, Nth -1.
func TestCtors(t *testing.T) {
	p := of("B A: int f, new, int f int a, new int a, new A a, new int b", "A: new A x, new", "C B: int f", "D", "E ZeroFault: static new")
	for class, want := range map[string]string{"A": "A 0, A 1", "B": "B 1, B 3, B 4, B 5", "C": "C -1", "D": "D -1", "E": "E 0"} {
		checkTargets(t, class, method.Ctors(p, class), want)
	}
	for _, s := range bases {
		checkTargets(t, s, method.Ctors(p, s), s+" -1")
		checkTargets(t, s, method.Ctors(api.Program{}, s), s+" -1")
	}
	for _, s := range append([]string{"F", "f", "b", "new"}, odd...) {
		if slices.Contains(bases, s) {
			continue
		}
		checkTargets(t, s, method.Ctors(api.Program{}, s), "")
		if s != "A" {
			checkTargets(t, s, method.Ctors(p, s), "")
		}
	}
}

// TestFind is promise 8.1: the first one of the Chain that is Same, whatever else it is.
func TestFind(t *testing.T) {
	p := of("C B: int f A x, new", "B A: int h, static A f int b, new int a, void f", "A: new A a, int f int a, int f A a, static void g, void f int c", "F ZeroFault: int f", "E", "G E: int f")
	for m, want := range map[string][3]string{
		"int f":          {"", "B 3", "B 3"},
		"void f int a":   {"A 1", "B 1", "B 1"},
		"static D f A y": {"A 2", "A 2", "C 0"},
		"A g":            {"A 3", "A 3", "A 3"},
		"int h":          {"", "B 0", "B 0"},
		"int h int a":    {"", "", ""},
		"int f B a":      {"", "", ""},
		"int f A a A b":  {"", "", ""},
		"int -":          {"", "", ""},
		"int - int a":    {"", "", ""},
		"new":            {"", "", ""},
		"new A a":        {"", "", ""},
		"void F":         {"", "", ""},
		"int ff":         {"", "", ""},
		"static void g":  {"A 3", "A 3", "A 3"},
	} {
		for i, class := range []string{"A", "B", "C"} {
			got, is := method.Find(p, class, mk(m))
			checkOne(t, class+" "+m, got, is, want[i])
		}
		for _, s := range append([]string{"E", "D"}, odd...) {
			got, is := method.Find(api.Program{}, s, mk(m))
			checkOne(t, s+" "+m, got, is, "")
			if s != "A" {
				got, is = method.Find(p, s, mk(m))
				checkOne(t, s+" "+m, got, is, "")
			}
		}
	}
	for class, want := range map[string]string{"F": "F 0", "G": "G 0"} {
		got, is := method.Find(p, class, mk("int f"))
		checkOne(t, class, got, is, want)
	}
	// A constructor is no method, even if it had a name.
	p.Classes[0].Methods[1].Name = "k"
	got, is := method.Find(p, "C", mk("int k"))
	checkOne(t, "a constructor that is there", got, is, "")
	named := mk("int f int a")
	named.Ctor = true
	got, is = method.Find(p, "C", named)
	checkOne(t, "a constructor that is asked for", got, is, "")
}

// family is a program with all ways that one may stand in for another.
func family() api.Program {
	return of(
		"D C: int f int a, new, int f A b, int h, static void g",
		"C B: int g int a, new int a",
		"B A: new, int f int b, A f, static A g, int h int a",
		"A: new, int f int a, int f A a, void g, new int a, int h, static int f",
		"E A: int f A c, int f",
		"G: int f int a, int h",
		"H Exception: int f int a",
	)
}

// above are all of family that stand in for another one, each with that one.
func above() map[string]string {
	return map[string]string{"D 0": "B 1", "D 2": "A 2", "D 3": "A 5", "D 4": "B 3", "B 1": "A 1", "B 2": "A 6", "B 3": "A 3", "E 0": "A 2", "E 1": "A 6"}
}

// below are all of family for which others stand in, each with those.
func below() map[string]string {
	return map[string]string{"A 1": "D 0, B 1", "A 2": "D 2, E 0", "A 3": "D 4, B 3", "A 5": "D 3", "A 6": "B 2, E 1", "B 1": "D 0", "B 3": "D 4"}
}

// TestAboveBelow is promises 8.1 and 8.3: the nearest one behind, all those in Kids by the classes' order, and nothing of constructors and of places that are none.
func TestAboveBelow(t *testing.T) {
	p := family()
	names := append([]string{"F"}, odd...)
	for _, c := range p.Classes {
		names = append(names, c.Name)
	}
	for _, s := range names {
		for i := -1; i < 10; i++ {
			x := api.Target{Own: s, Nth: i}
			told := s + " " + string(rune('0'+i))
			got, is := method.Above(p, x)
			checkOne(t, told, got, is, above()[told])
			checkTargets(t, told, method.Below(p, x), below()[told])
			if l := method.Below(api.Program{}, x); len(l) > 0 {
				t.Fatal(l)
			}
			got, is = method.Above(api.Program{}, x)
			checkOne(t, told, got, is, "")
		}
	}
	// Of two in one class Above tells the first one, and Below both.
	two := of("A: int f, void f", "B A", "C B: int h, A f, int f")
	got, is := method.Above(two, to("C 2"))
	checkOne(t, "two", got, is, "A 0")
	checkTargets(t, "two", method.Below(two, to("A 1")), "C 1, C 2")
	for _, i := range []int{math.MaxInt, math.MinInt, 1 << 32} {
		got, is := method.Above(p, api.Target{Own: "D", Nth: i})
		checkOne(t, "D", got, is, "")
		checkTargets(t, "A", method.Below(p, api.Target{Own: "A", Nth: i}), "")
	}
}
