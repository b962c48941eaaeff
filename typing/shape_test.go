package typing_test

import (
	"math"
	"slices"
	"strings"
	"testing"

	"changeling/api"
	"changeling/tree"
	"changeling/typing"
)

// goodNames and so on are values of a part, those that fit ahead of those that fit nothing.
var (
	goodNames   = []string{"a", "zZ9", "aaaaaaaaaaaaaaaaaaaa", "string", "x", "supers"}
	badNames    = []string{"A", "9", "a_", "this", "super", "aaaaaaaaaaaaaaaaaaaaa", "\xff", "é", " ", "a ", " a", "is as", "aé", "a\x00", "a{", "a`", "a@", "a[", "a/", "a:"}
	goodClasses = []string{"A", "Zz9", "Aaaaaaaaaaaaaaaaaaaa", "Exception", "Strings", "B"}
	badClasses  = []string{"a", "String", "int", "boolean", "void", "null", "A_", "Aaaaaaaaaaaaaaaaaaaaa", "\xff", "A ", "É", "9A", "[A"}
	reserved    = strings.Fields("boolean int void class extends static new this super null true false if else while return print assert throw try catch finally as is")
	binaries    = []string{"+", "-", "*", "/", "%", "@", "<", "<=", "==", "!=", "&&", "||"}
	unaries     = []string{"-", "!", "#"}
)

// rule is what 3.2 and api tell of a Kind: what fits each part (nil: only the zero value), and how many L are, at least and at most.
type rule struct {
	nums               []int32
	texts, names, refs []string
	least, most        int
}

func rules() map[int]rule {
	n, c := goodNames, goodClasses
	const many = math.MaxInt
	return map[int]rule{
		api.EInt:       {nums: []int32{0, 1, 2, math.MaxInt32}},
		api.EBool:      {nums: []int32{0, 1}},
		api.EText:      {texts: []string{"", "x", "\ufffd", "\x00\n\"\\"}},
		api.ENull:      {},
		api.EThis:      {},
		api.EName:      {names: n},
		api.EField:     {names: n, least: 1, most: 1},
		api.ESuperName: {names: n},
		api.EStatic:    {names: n, refs: c},
		api.ECall:      {names: n, least: 1, most: many},
		api.ESelf:      {names: n, most: many},
		api.ESuperCall: {names: n, most: many},
		api.EStatCall:  {names: n, refs: c, most: many},
		api.ENew:       {refs: c, most: many},
		api.ECast:      {refs: c, least: 1, most: 1},
		api.EIs:        {refs: c, least: 1, most: 1},
		api.EBin:       {names: binaries, least: 2, most: 2},
		api.EUn:        {names: unaries, least: 1, most: 1},
	}
}

func fitting[T comparable](x T, fit []T) bool {
	var zero T
	if fit == nil {
		return x == zero
	}
	return slices.Contains(fit, x)
}

// small is a program that is quickly asked.
func small() (api.Program, typing.Scope) { return made("class A { }"), scope("A", "") }

// checkRead holds that e is told as one that may have been read, or as ErrArg.
func checkRead(t *testing.T, e api.Expr, want bool, what ...any) {
	t.Helper()
	p, s := small()
	kind, code := typing.Of(p, s, e)
	if (code != api.ErrArg) != want || code != 0 && kind != "" {
		t.Fatal("Of", what, "is", kind, code)
	}
}

func leaf() api.Expr { return api.Expr{Kind: api.EInt} }

// TestExprs is promise 10.1 (3.2): of each Kind each part with each value, all with one another.
func TestExprs(t *testing.T) {
	names := slices.Concat(goodNames[:2], badNames[:4], binaries, unaries, []string{"", "^", ">", "=", "!!", "<<", "+ "})
	refs := slices.Concat(goodClasses[:2], badClasses[:4], []string{""})
	kinds := []int{math.MinInt, math.MaxInt, 257, 1<<32 + 1, 77}
	for kind := range 24 {
		kinds = append(kinds, kind-3)
	}
	for _, kind := range kinds {
		r, is := rules()[kind]
		for _, num := range []int32{math.MinInt32, -1, 0, 1, 2, math.MaxInt32} {
			for _, text := range []string{"", "x", "\ufffd", "\x00\n\"\\", "\xff", "a\xc3"} {
				for _, name := range names {
					for _, ref := range refs {
						for l := range 4 {
							e := api.Expr{Kind: kind, Num: num, Text: text, Name: name, Type: ref, Own: "?", Nth: -9, L: slices.Repeat([]api.Expr{leaf()}, l)}
							fits := is && fitting(num, r.nums) && fitting(text, r.texts) && fitting(name, r.names) && fitting(ref, r.refs) && l >= r.least && l <= r.most
							checkRead(t, e, fits, e)
						}
					}
				}
			}
		}
	}
}

// ofEach is an expression of each Kind, as short as may be.
func ofEach() []api.Expr {
	var l []api.Expr
	for kind, r := range rules() {
		e := api.Expr{Kind: kind, L: slices.Repeat([]api.Expr{leaf()}, r.least)}
		if r.names != nil {
			e.Name = r.names[0]
		}
		if r.refs != nil {
			e.Type = r.refs[0]
		}
		l = append(l, e)
	}
	return l
}

// TestNamesAndSigns is promise 10.1 (1.1, 3.2): each name, each class and each sign, in each Kind, and within each Kind.
func TestNamesAndSigns(t *testing.T) {
	texts := slices.Concat(goodNames, badNames, goodClasses, badClasses, reserved, binaries, unaries, []string{"", "<==", "&", "|", "**", "!=="})
	for _, e := range ofEach() {
		r := rules()[e.Kind]
		for _, s := range texts {
			x, y := e, e
			x.Name, y.Type = s, s
			checkRead(t, x, fitting(s, r.names), x)
			checkRead(t, y, fitting(s, r.refs), y)
			for _, z := range ofParts(x, leaf()) {
				checkRead(t, z, fitting(s, r.names), z)
			}
			for _, z := range ofParts(leaf(), y) {
				checkRead(t, z, fitting(s, r.refs), z)
			}
		}
	}
	for a := range rune(130) {
		for b := range rune(130) {
			for _, s := range []string{string(a), string(a) + string(b)} {
				small := s[0] >= 'a' && s[0] <= 'z' && s != "is" && s != "as" && s != "if"
				big := s[0] >= 'A' && s[0] <= 'Z'
				rest := strings.Trim(s[1:], "abcdefghijklmnopqrstuvwxyzABCDEFGHIJKLMNOPQRSTUVWXYZ0123456789") == ""
				checkRead(t, api.Expr{Kind: api.EName, Name: s}, small && rest, s)
				checkRead(t, api.Expr{Kind: api.ENew, Type: s}, big && rest, s)
				checkRead(t, api.Expr{Kind: api.EBin, Name: s, L: []api.Expr{leaf(), leaf()}}, slices.Contains(binaries, s), s)
				checkRead(t, api.Expr{Kind: api.EUn, Name: s, L: []api.Expr{leaf()}}, slices.Contains(unaries, s), s)
			}
		}
	}
}

// TestTexts is promise 10.1 (3.2): of UTF-8, MaxText bytes at most.
func TestTexts(t *testing.T) {
	for _, c := range []struct {
		s    string
		want bool
	}{
		{"", true}, {"\xff", false}, {"\ufffd", true}, {"a\xe2\x82", false}, {"\xed\xa0\x80", false}, {"\u20ac\U0001f600", true}, {"\xf4\x90\x80\x80", false}, {"\xc0\x80", false},
		{strings.Repeat("a", 1000), true}, {strings.Repeat("a", 1001), false}, {strings.Repeat("é", 500), true}, {strings.Repeat("é", 501), false},
		{strings.Repeat("\n", 999) + "é", false}, {strings.Repeat("a", 998) + "é", true}, {strings.Repeat("a", 999) + "\xc3", false}, {strings.Repeat("a", 1<<24), false},
	} {
		e := api.Expr{Kind: api.EText, Text: c.s}
		checkRead(t, e, c.want, c.s[:min(9, len(c.s))], len(c.s))
		for _, x := range ofParts(leaf(), e) {
			checkRead(t, x, c.want, len(c.s))
		}
	}
}

// TestMostNodes is promise 10.1: MaxNodes at most, however they stand.
func TestMostNodes(t *testing.T) {
	many := func(n int) []api.Expr { return slices.Repeat([]api.Expr{leaf()}, n) }
	for _, kind := range []int{api.ECall, api.ESelf, api.ESuperCall, api.EStatCall, api.ENew} {
		e := api.Expr{Kind: kind, Name: "f", Type: "A"}
		if kind == api.ENew {
			e.Name = ""
		}
		if kind != api.ENew && kind != api.EStatCall {
			e.Type = ""
		}
		for n, want := range map[int]bool{1: true, 2998: true, 2999: true, 3000: false, 3001: false, 100000: false} {
			checkRead(t, with(e, many(n)...), want, kind, n)
			// All in all as many, in three lists.
			if n > 900 {
				wide := with(e, with(e, many(300)...), with(e, many(n-600-3)...), with(e, many(300)...))
				checkRead(t, wide, want, kind, n)
			}
		}
	}
	// Two parts in each: 2,047 and 4,095 nodes.
	for n, want := range map[int]bool{10: true, 11: false} {
		e := leaf()
		for range n {
			e = api.Expr{Kind: api.EBin, Name: "+", L: []api.Expr{e, e}}
		}
		checkRead(t, e, want, n)
	}
}

// TestDeepest is promise 10.1: MaxDeep at most, wherever it is so deep.
func TestDeepest(t *testing.T) {
	for deep, want := range map[int]bool{1: true, 39: true, 40: true, 41: false, 42: false, 1000: false} {
		for i := range ofParts(leaf()) {
			one, first, last := leaf(), leaf(), leaf()
			for range deep - 1 {
				one = ofParts(one)[i]
				l, k := ofParts(first, leaf()), ofParts(leaf(), last)
				first, last = l[i%len(l)], k[i%len(k)]
			}
			checkRead(t, one, want, deep, i)
			checkRead(t, first, want, deep, i)
			checkRead(t, last, want, deep, i)
		}
	}
}

// TestSameAsRead is promise 10.1: what a program's field may have as its Init is what may be asked about.
func TestSameAsRead(t *testing.T) {
	lot := newLot(10)
	n := map[bool]int{}
	for range 30000 {
		e := lot.anyExpr(lot.Intn(6))
		may := tree.May(api.Program{Classes: []api.Class{{Name: "A", Fields: []api.Field{{Type: "int", Name: "x", Init: []api.Expr{e}}}}}})
		checkRead(t, e, may, e)
		n[may]++
	}
	if n[true] < 2000 || n[false] < 2000 {
		t.Fatal("the lot is one-sided:", n)
	}
}

// TestClass is promise 10.1: the class of the scope is one of the program's.
func TestClass(t *testing.T) {
	p := house()
	for _, class := range []string{"", "a", "None", "D", "int", "boolean", "String", "void", "null", "Exception", "NullFault", "CastFault", "ZeroFault", "RangeFault", "A ", "\xff"} {
		for _, s := range []typing.Scope{{Class: class}, {Class: class, Static: true}, scope(class, all)} {
			for _, e := range []string{"1", "a", "this", "nn", "A::g()", "null", "None::x"} {
				checkCode(t, p, s, read(e), api.ErrArg)
				checkCode(t, api.Program{}, s, read(e), api.ErrArg)
			}
		}
	}
}

// TestWrongPrograms is promise 10.1: a program with a fault of kin's, field's or method's, in whatever class, is refused, whatever is asked.
func TestWrongPrograms(t *testing.T) {
	const right = "class A { int x; static A s; int f(int a) { return 1; } void g() { } } class B extends A { int x; int f(int b) { return 1; } } "
	for _, wrong := range []string{
		"class B { }", "class Exception { }", "class ZeroFault extends A { }", // ErrTwice
		"class C extends None { }",                                             // ErrClass
		"class C extends C { }", "class C extends D { } class D extends C { }", // ErrCycle
		"class C { int x; int x; }", "class C { int x; String y; static A x; }", // ErrTwice
		"class C { None x; }", "class C extends B { int y; static D x; }", // ErrClass
		"class C { void f() { } int f() { return 1; } }", "class C { C() { } C() { } }", "class C { C(int a) { } void f(int a, A a) { } }", // ErrTwice
		"class C { None f() { return null; } }", "class C { void f(None a) { } }", "class C { C(D a) { } }", // ErrClass
		"class C extends A { void f(int a) { } }", "class C extends B { static int f(int a) { return 1; } }", "class C extends B { A g() { return this; } }", // ErrOver
	} {
		for _, text := range []string{right + wrong, wrong + " " + right} {
			p := made(text)
			for _, class := range []string{"A", "B", "static A", "C", "None"} {
				for _, e := range []string{"1", "x", "this", "nn", "g()", "A::s", "q", "1 + null", "new A()", "None::x"} {
					checkCode(t, p, scope(class, "int q"), read(e), api.ErrArg)
				}
			}
		}
	}
	check(t, made(right), scope("B", ""), "x: int B.0\nf(1): int B.0\nsuper.x: int A.0")
	// What else may be wrong in a program is not asked: Inits, Bodies, returns, how many there are of anything.
	p := made(right + "class C { int y = nn; int k() { } void f() { return 1; } C() { super(); } }")
	check(t, p, scope("C", ""), "y: int C.0\nk(): int C.0\nf(): void C.1\nnew C(): C C.2")
}
