package kin_test

import (
	"reflect"
	"slices"
	"strconv"
	"strings"
	"testing"
	"unsafe"

	"changeling/api"
	"changeling/kin"
)

// of is a program of those classes, each told as "Name" or "Name Super" (a "-" is the empty text).
func of(classes ...string) api.Program {
	var p api.Program
	for _, c := range classes {
		name, super, _ := strings.Cut(strings.ReplaceAll(c, "-", ""), " ")
		p.Classes = append(p.Classes, api.Class{Name: name, Super: super})
	}
	return p
}

// odd are texts that no plain program has as a class.
var odd = []string{"", "a", "int", "boolean", "String", "void", "null", "exception", "Exception ", " Exception", "Exceptions", "Fault", "\xff", "A\x00"}

func checkChain(t *testing.T, p api.Program, name string, want ...string) {
	t.Helper()
	if got := kin.Chain(p, name); !slices.Equal(got, want) {
		t.Fatalf("the Chain of %q in %v is %q, not %q", name, p, got, want)
	}
}

func checkKids(t *testing.T, p api.Program, name string, want ...string) {
	t.Helper()
	if got := kin.Kids(p, name); !slices.Equal(got, want) {
		t.Fatalf("the Kids of %q in %v are %q, not %q", name, p, got, want)
	}
}

func checkCheck(t *testing.T, p api.Program, wantCode, wantAt int) {
	t.Helper()
	if code, at := kin.Check(p); code != wantCode || at != wantAt {
		t.Fatalf("Check of %v is %d, %d, not %d, %d", p, code, at, wantCode, wantAt)
	}
}

// checkSubs asks Sub of all pairs of names: it must be true of those that are told ("a b"), and of no others.
func checkSubs(t *testing.T, p api.Program, names []string, want ...string) {
	t.Helper()
	for _, a := range names {
		for _, b := range names {
			if got := kin.Sub(p, a, b); got != slices.Contains(want, a+" "+b) {
				t.Fatalf("Sub of %q and %q in %v is %v", a, b, p, got)
			}
		}
	}
}

// TestBase is promise 6.1: Exception and its four faults, and nothing else.
func TestBase(t *testing.T) {
	for _, s := range []string{"Exception", "NullFault", "CastFault", "ZeroFault", "RangeFault"} {
		if !kin.Base(s) {
			t.Fatal(s)
		}
	}
	for _, s := range append([]string{"A", "Object", "StackFault", "nullFault", "NullFaults", "NULLFAULT", "NullFaul"}, odd...) {
		if kin.Base(s) {
			t.Fatal(s)
		}
	}
}

// TestFind is promise 6.1: the first one of that name; of base ones only those that the program has itself.
func TestFind(t *testing.T) {
	p := of("B A", "A", "C B", "A C", "Exception C", "-", "int", "-")
	for s, want := range map[string]int{"B": 0, "A": 1, "C": 2, "Exception": 4, "": 5, "int": 6, "NullFault": -1, "D": -1, "a": -1, "null": -1} {
		if got := kin.Find(p, s); got != want {
			t.Fatal(s, got)
		}
	}
	for _, s := range append([]string{"A", "Exception", "ZeroFault"}, odd...) {
		if kin.Find(api.Program{}, s) != -1 || kin.Find(of("B A"), s) != -1 {
			t.Fatal(s)
		}
	}
}

// TestSuper is promise 6.1: that of the first one of that name, and of base ones always their own.
func TestSuper(t *testing.T) {
	p := of("B A", "A", "C NullFault", "D E", "B C", "X X", "Exception A", "ZeroFault A", "- D", "int String")
	for s, want := range map[string]string{
		"B": "A", "A": "", "C": "NullFault", "D": "E", "X": "X", "E": "", "": "D", "int": "String", "String": "", "null": "",
		"Exception": "", "NullFault": "Exception", "CastFault": "Exception", "ZeroFault": "Exception", "RangeFault": "Exception",
	} {
		if got := kin.Super(p, s); got != want {
			t.Fatal(s, got)
		}
	}
	for _, s := range append([]string{"A", "Exception"}, odd...) {
		if kin.Super(api.Program{}, s) != "" {
			t.Fatal(s)
		}
	}
}

// TestChain is promise 6.1: it ends ahead of a class that is none, and of one that is in it.
func TestChain(t *testing.T) {
	p := of("C B", "B A", "A", "X CastFault", "Y X", "N None", "M N", "S String")
	checkChain(t, p, "A", "A")
	checkChain(t, p, "B", "B", "A")
	checkChain(t, p, "C", "C", "B", "A")
	checkChain(t, p, "Y", "Y", "X", "CastFault", "Exception")
	checkChain(t, p, "M", "M", "N")
	checkChain(t, p, "S", "S")
	for _, s := range []string{"NullFault", "CastFault", "ZeroFault", "RangeFault"} {
		checkChain(t, p, s, s, "Exception")
		checkChain(t, api.Program{}, s, s, "Exception")
	}
	checkChain(t, p, "Exception", "Exception")
	for _, s := range append([]string{"None", "D"}, odd...) {
		checkChain(t, p, s)
	}
}

// TestChainRound is promise 6.1: rings, and ways that come to one.
func TestChainRound(t *testing.T) {
	p := of("A A", "B C", "C B", "D E", "E F", "F D", "G F", "H G", "I A")
	checkChain(t, p, "A", "A")
	checkChain(t, p, "B", "B", "C")
	checkChain(t, p, "C", "C", "B")
	checkChain(t, p, "D", "D", "E", "F")
	checkChain(t, p, "F", "F", "D", "E")
	checkChain(t, p, "H", "H", "G", "F", "D", "E")
	checkChain(t, p, "I", "I", "A")
}

// TestNames is promise 6.1: a base one goes ahead of a class with its name, the first class ahead of the next; the empty name is one as any.
func TestNames(t *testing.T) {
	p := of("Exception A", "NullFault B", "A", "B A", "B", "X NullFault")
	checkChain(t, p, "Exception", "Exception")
	checkChain(t, p, "NullFault", "NullFault", "Exception")
	checkChain(t, p, "X", "X", "NullFault", "Exception")
	checkChain(t, p, "B", "B", "A")
	checkKids(t, p, "A", "B", "B")
	checkKids(t, p, "Exception", "NullFault", "X")
	checkKids(t, p, "NullFault", "X")
	checkSubs(t, p, []string{"Exception", "NullFault", "A", "B"}, "Exception Exception", "NullFault NullFault", "NullFault Exception", "A A", "B B", "B A")
	e := of("- A", "A B")
	checkChain(t, e, "", "", "A")
	checkKids(t, e, "A", "")
	checkSubs(t, e, []string{"", "A", "null"}, " ", " A", "A A", "null ", "null A", "null null")
	if !kin.Type(e, "") || kin.Super(e, "") != "A" || kin.Find(e, "") != 0 {
		t.Fatal("the empty name")
	}
	checkCheck(t, of("-"), 0, 0)
	checkCheck(t, of("A", "-", "-"), api.ErrTwice, 2)
	checkCheck(t, of("- -"), 0, 0)
	checkCheck(t, of("- D"), api.ErrClass, 0)
}

// TestEmptySuper is promise 6.1: where a class has the empty name, a Super that is empty tells that one, too; but no ring is told of a class whose own Super is empty (6.2).
func TestEmptySuper(t *testing.T) {
	p := of("A", "B A", "-")
	checkChain(t, p, "", "")
	checkChain(t, p, "B", "B", "A", "")
	checkKids(t, p, "", "A", "B")
	checkCheck(t, of("-", "A"), 0, 0)
	checkCheck(t, p, api.ErrCycle, 1)
}

// TestType is promise 6.1.
func TestType(t *testing.T) {
	p := of("A None", "null", "B B")
	for s, want := range map[string]bool{
		"int": true, "boolean": true, "String": true, "A": true, "B": true, "null": true,
		"Exception": true, "NullFault": true, "CastFault": true, "ZeroFault": true, "RangeFault": true,
		"void": false, "None": false, "": false, "a": false, "Int": false, "string": false, "int ": false,
	} {
		if kin.Type(p, s) != want {
			t.Fatal(s)
		}
		if kin.Type(api.Program{}, s) != (want && !slices.Contains([]string{"A", "B", "null"}, s)) {
			t.Fatal(s)
		}
	}
}

// TestSub is promises 6.1 and 6.3: all pairs of types, and of what is none.
func TestSub(t *testing.T) {
	p := of("C B", "A", "B A", "X NullFault", "D A")
	names := append([]string{"A", "B", "C", "D", "X", "Exception", "NullFault", "ZeroFault", "None"}, odd...)
	checkSubs(t, p, names,
		"int int", "boolean boolean", "String String", "null null",
		"A A", "B B", "C C", "D D", "X X", "Exception Exception", "NullFault NullFault", "ZeroFault ZeroFault",
		"B A", "C B", "C A", "D A", "X NullFault", "X Exception", "NullFault Exception", "ZeroFault Exception",
		"null A", "null B", "null C", "null D", "null X", "null Exception", "null NullFault", "null ZeroFault")
	checkSubs(t, api.Program{}, []string{"A", "void", "null", "int", "Exception", "RangeFault", ""},
		"null null", "int int", "Exception Exception", "RangeFault RangeFault", "RangeFault Exception", "null Exception", "null RangeFault")
	// A Super that is no class stands for nothing; in a ring each stands for each.
	checkSubs(t, of("A None", "S String", "I int", "B C", "C B"), []string{"A", "None", "S", "String", "I", "int", "B", "C"},
		"A A", "S S", "String String", "I I", "int int", "B B", "C C", "B C", "C B")
	// Classes may have the names of what else is a type, or of null.
	checkSubs(t, of("int A", "A null", "null String"), []string{"int", "A", "null", "String"},
		"int int", "int A", "int null", "A A", "A null", "null null", "null A", "null int", "String String")
}

// TestKids is promise 6.1: by the classes' order, without the one itself.
func TestKids(t *testing.T) {
	p := of("C B", "E", "B A", "A", "D A", "F D", "X NullFault", "Y Exception", "Z X")
	checkKids(t, p, "A", "C", "B", "D", "F")
	checkKids(t, p, "B", "C")
	checkKids(t, p, "D", "F")
	checkKids(t, p, "E")
	checkKids(t, p, "C")
	checkKids(t, p, "Exception", "X", "Y", "Z")
	checkKids(t, p, "NullFault", "X", "Z")
	checkKids(t, p, "ZeroFault")
	for _, s := range append([]string{"None"}, odd...) {
		checkKids(t, p, s)
		checkKids(t, api.Program{}, s)
		checkKids(t, of("A "+s), s)
	}
	ring := of("A A", "B C", "C B", "D B")
	checkKids(t, ring, "A")
	checkKids(t, ring, "B", "C", "D")
	checkKids(t, ring, "C", "B", "D")
	checkKids(t, ring, "D")
}

// TestCheck is promise 6.2: each code, the first class that is wrong, and which look comes first.
func TestCheck(t *testing.T) {
	checkCheck(t, api.Program{}, 0, 0)
	checkCheck(t, api.Program{Classes: []api.Class{}}, 0, 0)
	for _, s := range []string{"A", "A Exception", "A RangeFault", "A B,B", "C B,B A,A", "String", "int", "A null,null"} {
		checkCheck(t, of(strings.Split(s, ",")...), 0, 0)
	}
	for _, s := range []string{"Exception", "NullFault", "CastFault", "ZeroFault", "RangeFault"} {
		checkCheck(t, of(s), api.ErrTwice, 0)
		checkCheck(t, of("A "+s, s+" A", s), api.ErrTwice, 1)
		checkCheck(t, of("A", "B "+s), 0, 0)
	}
	checkCheck(t, of("A", "B", "A", "B"), api.ErrTwice, 2)
	checkCheck(t, of("A", "B", "C", "B", "A"), api.ErrTwice, 3)
	for _, s := range []string{"None", "int", "boolean", "String", "void", "null", "a", "Aa", "\xff", " "} {
		checkCheck(t, of("A", "B A", "C "+s, "D C"), api.ErrClass, 2)
		checkCheck(t, of("A "+s), api.ErrClass, 0)
	}
	checkCheck(t, of("A A"), api.ErrCycle, 0)
	checkCheck(t, of("A", "B C", "C D", "D B"), api.ErrCycle, 1)
	checkCheck(t, of("E B", "B C", "C B"), api.ErrCycle, 0)
	checkCheck(t, of("A", "E A", "B B", "F B"), api.ErrCycle, 2)
}

// TestCheckTurns is promise 6.2: names twice first, wherever they are; then class by class both others.
func TestCheckTurns(t *testing.T) {
	checkCheck(t, of("A None", "B B", "C", "C"), api.ErrTwice, 3)
	checkCheck(t, of("A A", "B None", "NullFault"), api.ErrTwice, 2)
	checkCheck(t, of("A A", "A"), api.ErrTwice, 1)
	checkCheck(t, of("A B", "B None", "C C"), api.ErrClass, 1)
	checkCheck(t, of("C C", "A B", "B None"), api.ErrCycle, 0)
	checkCheck(t, of("A None", "C C"), api.ErrClass, 0)
	checkCheck(t, of("A C", "B None", "C C"), api.ErrCycle, 0)
}

// TestParts is promise 6.1: members count for nothing; base ones have none, and are in no program.
func TestParts(t *testing.T) {
	p := of("A", "B A", "C NullFault")
	q := of("A", "B A", "C NullFault")
	for i := range q.Classes {
		q.Classes[i].Fields = []api.Field{{Type: "None", Name: "A"}, {Type: "None", Name: "A"}}
		q.Classes[i].Methods = []api.Method{{Name: "B"}, {Ctor: true, Body: []api.Stmt{{Kind: -1}}}}
	}
	for _, s := range append([]string{"A", "B", "C", "None", "Exception"}, odd...) {
		if !reflect.DeepEqual(answers(p, s), answers(q, s)) {
			t.Fatal(s)
		}
	}
}

// answers is what all calls answer of a program and a name.
func answers(p api.Program, s string) []any {
	code, at := kin.Check(p)
	l := []any{kin.Base(s), kin.Find(p, s), kin.Super(p, s), kin.Chain(p, s), kin.Type(p, s), kin.Kids(p, s), code, at}
	for _, c := range p.Classes {
		l = append(l, kin.Sub(p, s, c.Name), kin.Sub(p, c.Name, s))
	}
	return l
}

// TestOwnMemory is rule 2 of the document: nothing handed in is changed, and nothing answered shares memory with it.
func TestOwnMemory(t *testing.T) {
	names := []string{strings.Clone("Apple"), strings.Clone("Berry"), strings.Clone("Cherry")}
	make3 := func() api.Program {
		return api.Program{Classes: []api.Class{{Name: names[0], Super: names[1]}, {Name: names[1], Super: names[2]}, {Name: names[2]}}}
	}
	p := make3()
	var given []*byte
	for _, s := range names {
		given = append(given, unsafe.StringData(s))
	}
	var told []string
	for range 2 {
		for _, s := range names {
			told = append(told, kin.Super(p, s))
			told = append(told, kin.Chain(p, s)...)
			told = append(told, kin.Kids(p, s)...)
			kin.Check(p)
		}
	}
	for _, s := range told {
		if s != "" && slices.Contains(given, unsafe.StringData(s)) {
			t.Fatal("the memory of", s, "is shared")
		}
	}
	clear(kin.Chain(p, names[0]))
	clear(kin.Kids(p, names[2]))
	if !reflect.DeepEqual(p, make3()) {
		t.Fatal("what was handed in is changed")
	}
}

// TestMany is rule 1 of the document: all calls end on programs of very many classes, in a row and in a ring.
func TestMany(t *testing.T) {
	const n = 200000
	var p api.Program
	nth := func(i int) string { return "C" + strconv.Itoa(i) }
	for i := range n {
		p.Classes = append(p.Classes, api.Class{Name: nth(i), Super: nth(i + 1)})
	}
	checkCheck(t, p, api.ErrClass, n-1)
	last := &p.Classes[n-1].Super
	for super, want := range map[string]int{"": n, "Exception": n + 1, "ZeroFault": n + 2, nth(0): n, nth(n / 2): n} {
		*last = super
		code := api.OK
		if kin.Find(p, super) >= 0 {
			code = api.ErrCycle
		}
		checkCheck(t, p, code, 0)
		if l := kin.Chain(p, nth(0)); len(l) != want || l[0] != nth(0) || l[n-1] != nth(n-1) {
			t.Fatal(super, len(l))
		}
		if l := kin.Kids(p, nth(n-1)); len(l) != n-1 || l[0] != nth(0) || l[n-2] != nth(n-2) {
			t.Fatal(super, len(l))
		}
		if !kin.Sub(p, nth(0), nth(n-1)) || kin.Sub(p, nth(n-1), nth(0)) != (super == nth(0)) || !kin.Sub(p, nth(n-1), nth(n-1)) {
			t.Fatal(super)
		}
	}
	p.Classes[n-1].Name = nth(n / 2)
	checkCheck(t, p, api.ErrTwice, n-1)
	if kin.Find(p, nth(n/2)) != n/2 || kin.Find(p, nth(n-1)) != -1 {
		t.Fatal("Find")
	}
}
