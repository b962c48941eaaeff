package over_test

import (
	"math"
	"slices"
	"strings"
	"testing"

	"changeling/api"
	"changeling/method"
	"changeling/over"
)

// of is a program of those classes, each told as "Name", "Name Super" or "Name Super: f int A, g, new int" (names with the Types of their parameters; "new" is a constructor; a "-" is the empty text).
func of(classes ...string) api.Program {
	var p api.Program
	for _, s := range classes {
		head, members, _ := strings.Cut(s, ":")
		name, super, _ := strings.Cut(head, " ")
		c := api.Class{Name: plain(name), Super: plain(super)}
		for m := range strings.SplitSeq(members, ",") {
			if strings.TrimSpace(m) != "" {
				c.Methods = append(c.Methods, mk(m))
			}
		}
		p.Classes = append(p.Classes, c)
	}
	return p
}

func plain(s string) string {
	if s == "-" {
		return ""
	}
	return s
}

// mk is the method, or constructor, told by a text.
func mk(s string) api.Method {
	words := strings.Fields(s)
	m := api.Method{Type: "void", Name: words[0]}
	if m.Name == "new" {
		m = api.Method{Ctor: true}
	}
	for _, w := range words[1:] {
		m.Params = append(m.Params, api.Param{Type: plain(w), Name: "a"})
	}
	return m
}

// args are the types told by a text.
func args(s string) []string {
	var l []string
	for _, w := range strings.Fields(s) {
		l = append(l, plain(w))
	}
	return l
}

// to is the Target told as "Own Nth": "A 1", with a Nth from -1 to 9; the zero one of an empty text.
func to(s string) api.Target {
	own, nth, is := strings.Cut(s, " ")
	switch {
	case !is:
		return api.Target{}
	case nth == "-1":
		return api.Target{Own: plain(own), Nth: -1}
	}
	return api.Target{Own: plain(own), Nth: int(nth[0] - '0')}
}

// each is the Targets told by a text, with commas between.
func each(s string) []api.Target {
	var l []api.Target
	for one := range strings.SplitSeq(s, ", ") {
		if one != "" {
			l = append(l, to(one))
		}
	}
	return l
}

// bases are the classes that are in no program.
var bases = []string{"Exception", "NullFault", "CastFault", "ZeroFault", "RangeFault"}

// wrong are programs in which kin finds a class that is wrong, each by another one of its faults, beside classes that are right.
func wrong() map[int]api.Program {
	right := []string{"A: f, f A, new, new A", "B A: f, new"}
	return map[int]api.Program{
		api.ErrTwice: of(append(right, "C B: f", "C")...),
		api.ErrClass: of(append(right, "C None: f")...),
		api.ErrCycle: of(append(right, "C D: f", "D C: f")...),
	}
}

// checkOne holds an answer against the Target that is told, or against an error and the zero Target.
func checkOne(t *testing.T, what string, got api.Target, code int, want string, wantCode int) {
	t.Helper()
	if got != to(want) || code != wantCode {
		t.Fatalf("%s is %v, %d, not %q, %d", what, got, code, want, wantCode)
	}
}

func checkBest(t *testing.T, p api.Program, l, types, want string, wantCode int) {
	t.Helper()
	got, code := over.Best(p, each(l), args(types))
	checkOne(t, "Best of "+l+" for ("+types+")", got, code, want, wantCode)
}

func checkCall(t *testing.T, p api.Program, class, name, types, want string, wantCode int) {
	t.Helper()
	got, code := over.Call(p, class, name, args(types))
	checkOne(t, "Call of "+class+"."+name+"("+types+")", got, code, want, wantCode)
}

func checkNew(t *testing.T, p api.Program, class, types, want string, wantCode int) {
	t.Helper()
	got, code := over.New(p, class, args(types))
	checkOne(t, "New of "+class+"("+types+")", got, code, want, wantCode)
}

func checkFits(t *testing.T, p api.Program, m, types string, want bool) {
	t.Helper()
	if over.Fits(p, mk(m), args(types)) != want {
		t.Fatalf("Fits of %q and (%s) is %v", m, types, !want)
	}
}

func checkAbove(t *testing.T, p api.Program, a, b string, want bool) {
	t.Helper()
	if over.Above(p, mk(a), mk(b)) != want {
		t.Fatalf("Above of %q and %q is %v", a, b, !want)
	}
}

// stands are the types, and what may be taken for one, of kinship: "a b" where an a may stand for a b.
const (
	asked  = "int boolean String null A B C D X Exception NullFault ZeroFault None void - a Int"
	stands = "int int,boolean boolean,String String,null null,null A,null B,null C,null D,null X,null Exception,null NullFault,null ZeroFault," +
		"A A,B B,B A,C C,C B,C A,D D,D A,X X,X NullFault,X Exception,Exception Exception,NullFault NullFault,NullFault Exception,ZeroFault ZeroFault,ZeroFault Exception"
)

func kinship() api.Program { return of("C B", "A", "B A", "X NullFault", "D A") }

// TestFitsOne is promise 9.1: each argument's type with each parameter's, alone, and in each place of more.
func TestFitsOne(t *testing.T) {
	p := kinship()
	for _, a := range strings.Fields(asked) {
		for _, b := range strings.Fields(asked) {
			want := slices.Contains(strings.Split(stands, ","), a+" "+b)
			checkFits(t, p, "f "+b, a, want)
			checkFits(t, p, "f int "+b, "int "+a, want)
			checkFits(t, p, "f "+b+" A", a+" C", want)
			checkFits(t, p, "f "+b+" int "+b, a+" int "+a, want)
			checkAbove(t, p, "f "+a, "f "+b, want)
			checkAbove(t, p, "f int "+a, "g int "+b, want)
			checkAbove(t, p, "f "+a+" C", "g "+b+" A", want)
			checkAbove(t, p, "new "+a+" int "+a, "new "+b+" int "+b, want)
		}
	}
}

// TestFits is promise 9.1: as many parameters, and each in its place.
func TestFits(t *testing.T) {
	p := kinship()
	for m, yes := range map[string]string{
		"f":          "",
		"f A":        "A,B,C,D,null",
		"f A B":      "A B,B B,A C,C C,D B,null null,null C",
		"f int A":    "int A,int D,int null",
		"f A A A":    "A A A,C B A,D null A",
		"f String A": "String A",
		"new B":      "B,C,null",
		"new":        "",
	} {
		for _, s := range []string{"", "A", "B", "C", "D", "int", "String", "null", "A B", "B A", "B B", "A C", "C C", "D B", "B D", "null null", "null C", "int A", "A int", "int D", "int null", "int int", "null int", "A A A", "C B A", "D null A", "A A int", "A A", "A A A A", "String A", "None", "None A", "- -"} {
			checkFits(t, p, m, s, slices.Contains(strings.Split(yes, ","), s))
		}
	}
}

// TestAbove is promise 9.1: as many parameters, each of the first one's Types the more special one, or the same.
func TestAbove(t *testing.T) {
	p := kinship()
	for _, s := range []string{"f", "f A", "f int A", "f C C", "f B A,f A A", "f C B,f B B", "f int", "new C,f A", "f null,f A", "f null null,f A X"} {
		a, b, two := strings.Cut(s, ",")
		if !two {
			b = a
		}
		checkAbove(t, p, a, b, true)
		checkAbove(t, p, b, a, !two)
	}
	for _, s := range []string{"f,f A", "f A,f A A", "f A B,f B A", "f A,f int", "f B,f D", "f A,f X", "f A int,f A String", "f None", "f void", "f int None", "f None int", "f -"} {
		a, b, two := strings.Cut(s, ",")
		if !two {
			b = a
		}
		checkAbove(t, p, a, b, false)
		checkAbove(t, p, b, a, false)
	}
	checkAbove(t, p, "f B", "f A B", false)
	checkAbove(t, p, "f B", "f A A", false)
	checkAbove(t, p, "f B B", "f A", false)
}

// TestParts is promise 9.1: nothing of a method but its parameters' Types counts.
func TestParts(t *testing.T) {
	p := kinship()
	a := api.Method{Type: "int", Name: "f", Params: []api.Param{{Type: "B", Name: "x"}}}
	b := api.Method{Static: true, Ctor: true, Type: "None", Name: "g", Params: []api.Param{{Type: "A", Name: "y"}}, Body: []api.Stmt{{Kind: -1}}}
	if !over.Above(p, a, b) || over.Above(p, b, a) || !over.Fits(p, a, []string{"B"}) || !over.Fits(p, b, []string{"B"}) || over.Fits(p, a, []string{"A"}) {
		t.Fatal("parts")
	}
}

// TestWrongKin is promise 9.1: in a program that kin refuses, too, it is Sub that counts.
func TestWrongKin(t *testing.T) {
	for code, p := range wrong() {
		for _, s := range []string{"B,A", "A,A", "int,int", "null,C", "C,C", "ZeroFault,Exception"} {
			a, b, _ := strings.Cut(s, ",")
			checkFits(t, p, "f "+b, a, true)
			checkAbove(t, p, "f "+a, "f "+b, true)
			checkFits(t, p, "f "+a, b, a == b)
			checkAbove(t, p, "f "+b, "f "+a, a == b)
		}
		checkFits(t, p, "f B", "C", code == api.ErrTwice)
		checkFits(t, p, "f D", "C", code == api.ErrCycle)
		checkFits(t, p, "f C", "D", code == api.ErrCycle)
		checkAbove(t, p, "f C D", "f D C", code == api.ErrCycle)
	}
}

// TestExamples is the document's examples: its fifth one, and that of chapter 9.
func TestExamples(t *testing.T) {
	p := of("A: f int, f A", "B A", "L: f A, f B")
	checkCall(t, p, "A", "f", "null", "A 1", 0)
	checkCall(t, p, "L", "f", "null", "L 1", 0)
	checkCall(t, p, "L", "f", "B", "L 1", 0)
	checkCall(t, p, "L", "f", "A", "L 0", 0)
}

// TestBest is promises 9.2 and 9.3: the one that is Above all that Fit, wherever it stands in the list.
func TestBest(t *testing.T) {
	p := of("A: f A, f B, f C, f int, f", "B A: g A A, g A B, g B A, g B B, g int A", "C B: h D, h Exception, h ZeroFault", "D")
	for _, l := range []string{"A 0, A 1, A 2, A 3, A 4", "A 4, A 3, A 2, A 1, A 0", "A 1, A 2, A 4, A 0, A 3"} {
		for types, want := range map[string]string{"A": "A 0", "B": "A 1", "C": "A 2", "int": "A 3", "": "A 4", "null": "A 2"} {
			checkBest(t, p, l, types, want, 0)
		}
		for _, types := range []string{"D", "boolean", "String", "Exception", "A A", "int int", "None", "void", "-"} {
			checkBest(t, p, l, types, "", api.ErrMethod)
		}
	}
	checkBest(t, p, "A 0, A 2", "null", "A 2", 0)
	checkBest(t, p, "A 0, A 1", "C", "A 1", 0)
	checkBest(t, p, "A 0", "C", "A 0", 0)
	checkBest(t, p, "A 2", "B", "", api.ErrMethod)
	for _, l := range []string{"B 0, B 1, B 2, B 3, B 4", "B 4, B 3, B 2, B 1, B 0"} {
		checkBest(t, p, l, "A A", "B 0", 0)
		checkBest(t, p, l, "A C", "B 1", 0)
		checkBest(t, p, l, "B A", "B 2", 0)
		checkBest(t, p, l, "C C", "B 3", 0)
		checkBest(t, p, l, "int C", "B 4", 0)
		checkBest(t, p, l, "null B", "B 3", 0)
		checkBest(t, p, l, "null null", "B 3", 0)
	}
}

// TestVague is promise 9.2: it is not enough to be Above most of them, nor that nothing is Above it.
func TestVague(t *testing.T) {
	p := of("A: g A B, g B A, g A A, h A, h D, h B, k Exception, k B, k A", "B A", "C B", "D")
	for _, l := range []string{"A 0, A 1", "A 1, A 0", "A 0, A 1, A 2", "A 2, A 0, A 1", "A 0, A 2, A 1"} {
		checkBest(t, p, l, "B B", "", api.ErrVague)
		checkBest(t, p, l, "C B", "", api.ErrVague)
		checkBest(t, p, l, "A B", "A 0", 0)
	}
	checkBest(t, p, "A 0, A 2", "B B", "A 0", 0)
	for _, l := range []string{"A 3, A 4, A 5", "A 5, A 4, A 3", "A 4, A 3, A 5"} {
		checkBest(t, p, l, "null", "", api.ErrVague)
		checkBest(t, p, l, "B", "A 5", 0)
		checkBest(t, p, l, "D", "A 4", 0)
	}
	checkBest(t, p, "A 6, A 7, A 8", "null", "", api.ErrVague)
	checkBest(t, p, "A 6", "null", "A 6", 0)
	checkBest(t, p, "A 8, A 7, A 6", "ZeroFault", "A 6", 0)
	// What does not Fit makes nothing vague.
	q := of("A: f A, f int, f String, f A A, f D, f", "D")
	checkBest(t, q, "A 1, A 2, A 3, A 5, A 0", "A", "A 0", 0)
	checkBest(t, q, "A 1, A 2, A 3, A 4, A 5, A 0", "null", "", api.ErrVague)
}

// TestThree is promise 9.2: of three places each one counts.
func TestThree(t *testing.T) {
	p := of("A: f A A B, f A B A, f B A A, f A A A, f B B B, f A B B", "B A", "C B")
	checkBest(t, p, "A 0, A 1, A 2, A 3", "C C C", "", api.ErrVague)
	checkBest(t, p, "A 0, A 1, A 2, A 3, A 4", "C C C", "A 4", 0)
	checkBest(t, p, "A 5, A 0, A 1, A 3", "C C C", "A 5", 0)
	checkBest(t, p, "A 0, A 1, A 3, A 5, A 2", "C C C", "", api.ErrVague)
	checkBest(t, p, "A 0, A 1, A 3, A 5, A 2", "A C C", "A 5", 0)
	checkBest(t, p, "A 0, A 1, A 3, A 5, A 2", "A A C", "A 0", 0)
	checkBest(t, p, "A 0, A 1, A 2, A 3, A 4, A 5", "C C null", "A 4", 0)
}

// TestFirst is promise 9.2: of several that are Above all, the first one in the list, whatever it is.
func TestFirst(t *testing.T) {
	p := of("A: f A, new A, f, new", "B A: f A, g A, g, f B", "C: new A, f int, k, new")
	checkBest(t, p, "A 0, B 0, B 1, C 0, A 1", "B", "A 0", 0)
	checkBest(t, p, "C 0, B 0, A 0, A 1", "B", "C 0", 0)
	checkBest(t, p, "B 1, A 1", "null", "B 1", 0)
	checkBest(t, p, "A 0, C 1, A 1, B 3, B 0", "B", "B 3", 0)
	checkBest(t, p, "A 2, A 3, B 2", "", "A 2", 0)
	checkBest(t, p, "B 0, C 3, C 2, A 2", "", "C 3", 0)
	checkBest(t, p, "C 0, C 0, A 1", "A", "C 0", 0)
	checkBest(t, p, "A 0, C -1, A -1, A 2, B 2", "", "C -1", 0)
	checkBest(t, p, "A 2, C -1, A -1", "", "A 2", 0)
}

// TestNoneWritten is promise 9.1: a Target of Nth -1 is a constructor without parameters.
func TestNoneWritten(t *testing.T) {
	p := of("A: f A", "B A")
	for _, class := range append([]string{"A", "B"}, bases...) {
		checkBest(t, p, class+" -1", "", class+" -1", 0)
		checkBest(t, p, class+" -1, A 0", "", class+" -1", 0)
		for _, types := range []string{"A", "null", "int", "None", "A A"} {
			checkBest(t, p, class+" -1", types, "", api.ErrMethod)
		}
		checkBest(t, p, class+" -1, A 0", "B", "A 0", 0)
		checkBest(t, p, "A 0, "+class+" -1", "", class+" -1", 0)
	}
	for _, p := range wrong() {
		checkBest(t, p, "A -1", "", "A -1", 0)
		checkBest(t, p, "A 0, B 0, B -1, A -1", "", "B -1", 0)
	}
}

// TestNoTarget is promise 9.2: what tells no method is none that Fits.
func TestNoTarget(t *testing.T) {
	p := of("A: f, f A", "B A: f")
	for _, own := range []string{"A", "B", "", "C", "a", "Exception", "ZeroFault", "int", "null", "\xff"} {
		for _, nth := range []int{-2, 2, 3, 1000, math.MinInt, math.MaxInt} {
			l := []api.Target{{Own: own, Nth: nth}}
			for _, types := range [][]string{nil, {"A"}, {"null"}} {
				if got, code := over.Best(p, l, types); got != (api.Target{}) || code != api.ErrMethod {
					t.Fatal(l, types, got, code)
				}
			}
			if got, code := over.Best(p, append(l, to("A 1")), []string{"B"}); got != to("A 1") || code != 0 {
				t.Fatal(l, got, code)
			}
		}
	}
	checkBest(t, p, "C 0, Exception 0, - 0, B 1, A 0", "", "A 0", 0)
	for _, p := range wrong() {
		checkBest(t, p, "A 0, A 1, A 2, A 3, B 0, C 0", "", "", api.ErrMethod)
		checkBest(t, p, "A 0, A 1, A 2, A 3, B 0, C 0", "A", "", api.ErrMethod)
	}
}

// TestEmpty is rule 5 of the document: a nil list and an empty one are the same.
func TestEmpty(t *testing.T) {
	p := of("A: f, new", "B")
	for _, l := range [][]api.Target{nil, {}} {
		for _, types := range [][]string{nil, {}, {"A"}} {
			if got, code := over.Best(p, l, types); got != (api.Target{}) || code != api.ErrMethod {
				t.Fatal(got, code)
			}
		}
	}
	for _, types := range [][]string{nil, {}} {
		got, code := over.Call(p, "A", "f", types)
		checkOne(t, "Call", got, code, "A 0", 0)
		got, code = over.New(p, "A", types)
		checkOne(t, "New", got, code, "A 1", 0)
		got, code = over.New(p, "B", types)
		checkOne(t, "New", got, code, "B -1", 0)
		got, code = over.Best(p, []api.Target{to("B -1"), to("A 0")}, types)
		checkOne(t, "Best", got, code, "B -1", 0)
		for _, params := range [][]api.Param{nil, {}} {
			m := api.Method{Params: params}
			if !over.Fits(p, m, types) || !over.Above(p, m, mk("f")) || !over.Above(p, mk("f"), m) || over.Above(p, m, mk("f A")) {
				t.Fatal("no parameters")
			}
		}
	}
}

// TestCall is promises 9.2 and 9.3: of the methods of that Name that the class and its Chain have.
func TestCall(t *testing.T) {
	p := of("C B: f A, f B B", "A: f A, f B, f, g A, new int, new", "B A: f B, g B, h C", "D: f D", "E D: f A", "X ZeroFault: f X")
	for what, want := range map[string]string{
		"A f A": "A 0", "A f B": "A 1", "A f C": "A 1", "A f": "A 2", "A f null": "A 1",
		"B f A": "A 0", "B f B": "B 0", "B f": "A 2", "B f null": "B 0",
		"C f A": "C 0", "C f B": "B 0", "C f C": "B 0", "C f C B": "C 1", "C f null null": "C 1", "C f": "A 2",
		"A g C": "A 3", "C g C": "B 1", "C g A": "A 3", "B g D": "", "C h C": "B 2", "C h B": "", "A h C": "",
		"D f D": "D 0", "D f E": "D 0", "D f A": "", "E f E": "D 0", "E f A": "E 0", "E f B": "E 0", "E f int": "",
		"X f X": "X 0", "X f null": "X 0", "X f ZeroFault": "", "X f": "", "ZeroFault f X": "", "Exception f": "",
		"None f": "", "int f": "", "null f": "", "A F A": "", "A - A": "", "- f A": "", "A new int": "", "A -": "", "A f None": "", "A f void": "", "A f - -": "",
	} {
		words := strings.Fields(what)
		code := api.OK
		if want == "" {
			code = api.ErrMethod
		}
		checkCall(t, p, plain(words[0]), plain(words[1]), strings.Join(words[2:], " "), want, code)
	}
	checkCall(t, p, "E", "f", "null", "", api.ErrVague)
	checkCall(t, api.Program{}, "A", "f", "", "", api.ErrMethod)
	for _, p := range wrong() {
		for _, class := range []string{"A", "B", "C", "D"} {
			checkCall(t, p, class, "f", "", "", api.ErrMethod)
			checkCall(t, p, class, "f", "A", "", api.ErrMethod)
		}
	}
}

// TestTwice is promise 9.2: a class that method refuses has its methods, too: of two that are Same the first one is meant.
func TestTwice(t *testing.T) {
	p := of("A: f A, f A, new A, f None, new A, new", "B A: f A, f A")
	checkCall(t, p, "A", "f", "A", "A 0", 0)
	checkCall(t, p, "B", "f", "A", "B 0", 0)
	checkCall(t, p, "A", "f", "None", "", api.ErrMethod)
	checkNew(t, p, "A", "B", "A 2", 0)
	checkBest(t, p, "A 1, A 0, B 1", "A", "A 1", 0)
}

// TestNew is promise 9.2: the class's own constructors alone, or the one that is not written.
func TestNew(t *testing.T) {
	p := of("A: new, f A, new A, new B", "B A", "C B: new int, new C, new A, new", "D: new A B, new B A, f")
	for what, want := range map[string]string{
		"A": "A 0", "A A": "A 2", "A B": "A 3", "A C": "A 3", "A null": "A 3",
		"B": "B -1", "C": "C 3", "C int": "C 0", "C C": "C 1", "C null": "C 1", "C B": "C 2", "C A": "C 2",
		"D A B": "D 0", "D B A": "D 1", "D A C": "D 0",
	} {
		class, types, _ := strings.Cut(what, " ")
		checkNew(t, p, class, types, want, 0)
	}
	for _, what := range []string{"A int", "A A A", "A None", "A D", "B A", "B int", "B null", "C boolean", "C A A", "D", "D A", "D A A", "D A B A", "D null int"} {
		class, types, _ := strings.Cut(what, " ")
		checkNew(t, p, class, types, "", api.ErrMethod)
	}
	checkNew(t, p, "D", "B B", "", api.ErrVague)
	checkNew(t, p, "D", "null null", "", api.ErrVague)
}

// TestNewBase is promise 9.2: a base class has the one that is not written.
func TestNewBase(t *testing.T) {
	for _, p := range []api.Program{{}, of("A", "B ZeroFault: new int")} {
		for _, class := range bases {
			checkNew(t, p, class, "", class+" -1", 0)
			checkNew(t, p, class, "int", "", api.ErrMethod)
			checkNew(t, p, class, class, "", api.ErrMethod)
		}
	}
}

// TestNewNone is promise 9.2: ErrClass of no class, whatever the args; of a class of a program that kin refuses there are no constructors.
func TestNewNone(t *testing.T) {
	none := []string{"", "int", "boolean", "String", "void", "null", "a", "None", "new", "\xff", "A ", "Exceptions"}
	for _, p := range []api.Program{{}, of("A: new, f None", "B A"), wrong()[api.ErrTwice], wrong()[api.ErrClass], wrong()[api.ErrCycle]} {
		for _, class := range none {
			for _, types := range []string{"", "A", "int", "None", "-"} {
				checkNew(t, p, class, types, "", api.ErrClass)
			}
		}
	}
	for _, p := range wrong() {
		for _, class := range append([]string{"A", "B", "C"}, bases...) {
			checkNew(t, p, class, "", "", api.ErrMethod)
			checkNew(t, p, class, "A", "", api.ErrMethod)
		}
	}
}

// TestOddClasses is promises 9.1 and 9.2: classes with the names of what else is a type, of null, and of nothing.
func TestOddClasses(t *testing.T) {
	e := of("-: new, new -, f, f - -")
	checkNew(t, e, "", "", "- 0", 0)
	checkNew(t, e, "", "-", "- 1", 0)
	checkNew(t, e, "", "null", "- 1", 0)
	checkCall(t, e, "", "f", "", "- 2", 0)
	checkCall(t, e, "", "f", "- null", "- 3", 0)
	p := of("int A: new A, new null", "A: f int, f A, f null, f X", "null A", "X null")
	checkNew(t, p, "int", "int", "int 0", 0)
	checkNew(t, p, "null", "", "null -1", 0)
	checkCall(t, p, "A", "f", "int", "A 0", 0)
	checkCall(t, p, "A", "f", "A", "A 1", 0)
	// Null stands for X as for every class, and X for the class null, from which it is: each is Above the other.
	checkBest(t, p, "A 1, A 2, A 3", "X", "A 2", 0)
	checkBest(t, p, "A 3, A 2, A 1", "X", "A 3", 0)
	checkBest(t, p, "A 2, A 0", "null", "A 2", 0)
	checkBest(t, p, "A 0, A 3, A 2", "null", "A 2", 0)
	checkBest(t, p, "A 0, A 3", "null", "", api.ErrVague)
	checkBest(t, p, "A 1, A 3", "null", "A 3", 0)
	// A Type that is null's, though no class has that name.
	q := of("A: f null, f A, f B, f null null, f A null", "B A")
	checkCall(t, q, "A", "f", "null", "A 0", 0)
	checkCall(t, q, "A", "f", "B", "A 2", 0)
	checkCall(t, q, "A", "f", "null null", "A 3", 0)
	checkCall(t, q, "A", "f", "B null", "A 4", 0)
}

// TestSpecial is promise 9.3: what is meant Fits, and is Above all that Fit, in all classes that a call is made of.
func TestSpecial(t *testing.T) {
	p := of("A: f A A, f A B, f B A, f int A", "B A: f A A, f C C", "C B: f B B", "D: f A A, f C C, f B B, f Exception A, f ZeroFault A")
	types := []string{"int", "null", "A", "B", "C", "D", "Exception", "ZeroFault", "None"}
	for _, class := range []string{"A", "B", "C", "D"} {
		for _, x := range types {
			for _, y := range types {
				got, code := over.Call(p, class, "f", []string{x, y})
				if code != api.OK {
					continue
				}
				m, is := method.Get(p, got)
				if !is || !over.Fits(p, m, []string{x, y}) {
					t.Fatal(class, x, y, got)
				}
				for _, o := range method.All(p, class, "f") {
					if b, _ := method.Get(p, o); over.Fits(p, b, []string{x, y}) && !over.Above(p, m, b) {
						t.Fatal(class, x, y, got, o)
					}
				}
			}
		}
	}
}
