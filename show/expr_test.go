package show_test

import (
	"math"
	"reflect"
	"runtime/debug"
	"strings"
	"testing"
	"unsafe"

	"changeling/api"
	"changeling/parse"
	"changeling/show"
	"changeling/tree"
)

func name(s string) api.Expr { return api.Expr{Kind: api.EName, Name: s} }
func num(n int32) api.Expr   { return api.Expr{Kind: api.EInt, Num: n} }
func quoted(s string) api.Expr {
	return api.Expr{Kind: api.EText, Text: s}
}

// of is an expression of that kind, with a name and a class where they are not empty.
func of(kind int, s, class string, l ...api.Expr) api.Expr {
	return api.Expr{Kind: kind, Name: s, Type: class, L: l}
}
func bin(op string, a, b api.Expr) api.Expr { return of(api.EBin, op, "", a, b) }
func un(op string, a api.Expr) api.Expr     { return of(api.EUn, op, "", a) }

// shown is an expression, and what it must be shown as.
type shown struct {
	e    api.Expr
	want string
}

func checkExprs(t *testing.T, l []shown) {
	t.Helper()
	for _, x := range l {
		if got := show.Expr(x.e); got != x.want {
			t.Fatalf("%q, not %q", got, x.want)
		}
	}
}

// checkRead is promise 5.4: what is shown of e is read as e.
func checkRead(t *testing.T, e api.Expr) {
	t.Helper()
	s := show.Expr(e)
	if got, code, at := parse.Expr(s); code != 0 || !tree.SameExpr(got, e) {
		t.Fatalf("%s is read otherwise: %d at %d", s, code, at)
	}
}

// oneOfEach is an expression of each kind.
func oneOfEach() []shown {
	a, b := name("a"), name("b")
	return []shown{
		{num(7), "7"},
		{of(api.EBool, "", ""), "false"},
		{quoted("t"), `"t"`},
		{of(api.ENull, "", ""), "null"},
		{of(api.EThis, "", ""), "this"},
		{a, "a"},
		{of(api.EField, "f", "", a), "a.f"},
		{of(api.ESuperName, "f", ""), "super.f"},
		{of(api.EStatic, "f", "A"), "A::f"},
		{of(api.ECall, "f", "", a, b), "a.f(b)"},
		{of(api.ESelf, "f", "", a), "f(a)"},
		{of(api.ESuperCall, "f", "", a), "super.f(a)"},
		{of(api.EStatCall, "f", "A", a), "A::f(a)"},
		{of(api.ENew, "", "A", a), "new A(a)"},
		{of(api.ECast, "", "A", a), "a as A"},
		{of(api.EIs, "", "A", a), "a is A"},
		{bin("+", a, b), "a + b"},
		{un("-", a), "-a"},
	}
}

// TestExprKinds is promise 5.1: one of each kind, and the edges of those without parts.
func TestExprKinds(t *testing.T) {
	a, b := name("a"), name("b")
	each := oneOfEach()
	for i, x := range each {
		if x.e.Kind != i+1 {
			t.Fatal("not one of each kind", i)
		}
		checkRead(t, x.e)
	}
	checkExprs(t, each)
	checkExprs(t, []shown{
		{num(0), "0"}, {num(9999), "9999"}, {num(math.MaxInt32), "2147483647"},
		{api.Expr{Kind: api.EBool, Num: 1}, "true"},
		{quoted(""), `""`}, {quoted("\"\\\n"), `"\"\\\n"`}, {quoted("\\n"), `"\\n"`}, {quoted("é\r\t\x00//"), "\"é\r\t\x00//\""},
		{quoted("a\xffb\xc3"), "\"a\uFFFDb\uFFFD\""}, {quoted("\uFFFD"), "\"\uFFFD\""},
		{of(api.ECall, "f", "", a), "a.f()"}, {of(api.ECall, "f", "", a, b, a, num(1)), "a.f(b, a, 1)"},
		{of(api.ESelf, "f", ""), "f()"}, {of(api.ESelf, "f", "", a, b), "f(a, b)"},
		{of(api.ESuperCall, "f", ""), "super.f()"}, {of(api.ESuperCall, "f", "", a, b, a), "super.f(a, b, a)"},
		{of(api.EStatCall, "f", "A"), "A::f()"}, {of(api.EStatCall, "f", "A", a, b), "A::f(a, b)"},
		{of(api.ENew, "", "A"), "new A()"}, {of(api.ENew, "", "A", a, b), "new A(a, b)"},
	})
	for _, op := range strings.Fields("+ - * / % @ < <= == != && ||") {
		checkExprs(t, []shown{{bin(op, a, b), "a " + op + " b"}, {bin(op, un("-", a), un("!", b)), "-a " + op + " !b"}})
		checkRead(t, bin(op, a, b))
	}
	for _, op := range []string{"-", "!", "#"} {
		checkExprs(t, []shown{{un(op, a), op + "a"}, {un(op, un("-", num(1))), op + "-1"}})
		checkRead(t, un(op, un("-", a)))
	}
}

// TestExprExamples is promises 5.1 and 5.4, by hand: it is shown as it stands here, and read so.
func TestExprExamples(t *testing.T) {
	for _, s := range []string{
		"a + (b * c)", "(a - b) - c", "a - (b - c)", "(a + b) * (a + b)", "-a - a as A", "!(a + b)", "#-a", "-a as A", "(-a) as A", "(a + b).f", "(-a).f", "a as A.f", "a is A as B.f()", "(a == b) is A",
		"(a + b).f(a + b, -a, a as A)", "f(a + b, g(-(a < b)))", "super.f.g(super.h(), A::x.y)", "new A(new B(), a || b).f", "1.f(2)", "\"t\".f", "null is A", "this.a.b().c", "A::f(a).g", "-(-a + -b)", "(-a.f) as A", "--a", "!#-1",
	} {
		e, code, at := parse.Expr(s)
		if got := show.Expr(e); code != 0 || got != s {
			t.Fatalf("%q, not %q: %d at %d", got, s, code, at)
		}
	}
}

// slot is a place in an expression, where a part stands; in text it is the ~.
type slot struct {
	with     func(x api.Expr) api.Expr
	text     string
	bin, sgn bool // are there ( ) around an EBin, an EUn?
}

func slots() []slot {
	a, b := name("a"), name("b")
	in := func(kind int, s, class string, ahead, behind []api.Expr) func(api.Expr) api.Expr {
		return func(x api.Expr) api.Expr {
			l := append([]api.Expr(nil), ahead...)
			return of(kind, s, class, append(append(l, x), behind...)...)
		}
	}
	one, two := []api.Expr{a}, []api.Expr{a, b}
	return []slot{
		{in(api.EField, "f", "", nil, nil), "~.f", true, true},
		{in(api.ECall, "f", "", nil, nil), "~.f()", true, true},
		{in(api.ECall, "f", "", nil, one), "~.f(a)", true, true},
		{in(api.ECall, "f", "", one, nil), "a.f(~)", false, false},
		{in(api.ECall, "f", "", two, one), "a.f(b, ~, a)", false, false},
		{in(api.ESelf, "f", "", nil, nil), "f(~)", false, false},
		{in(api.ESelf, "f", "", one, one), "f(a, ~, a)", false, false},
		{in(api.ESuperCall, "f", "", nil, one), "super.f(~, a)", false, false},
		{in(api.EStatCall, "f", "A", two, nil), "A::f(a, b, ~)", false, false},
		{in(api.ENew, "", "A", nil, nil), "new A(~)", false, false},
		{in(api.ECast, "", "A", nil, nil), "~ as A", true, true},
		{in(api.EIs, "", "B", nil, nil), "~ is B", true, true},
		{in(api.EBin, "*", "", nil, one), "~ * a", true, false},
		{in(api.EBin, "*", "", one, nil), "a * ~", true, false},
		{in(api.EBin, "||", "", nil, one), "~ || a", true, false},
		{in(api.EBin, "-", "", one, nil), "a - ~", true, false},
		{in(api.EUn, "-", "", nil, nil), "-~", true, false},
		{in(api.EUn, "!", "", nil, nil), "!~", true, false},
	}
}

// filled is x in that place.
func (s slot) filled(x shown) shown {
	part := x.want
	if x.e.Kind == api.EBin && s.bin || x.e.Kind == api.EUn && s.sgn {
		part = "(" + part + ")"
	}
	return shown{s.with(x.e), strings.Replace(s.text, "~", part, 1)}
}

// TestBrackets is promises 5.1 and 5.4: each kind in each place, three deep: where ( ) stand, and that it is read so.
func TestBrackets(t *testing.T) {
	all := slots()
	for _, x := range oneOfEach() {
		for _, inner := range all {
			one := inner.filled(x)
			for _, middle := range all {
				two := middle.filled(one)
				for _, outer := range all {
					three := outer.filled(two)
					checkExprs(t, []shown{one, two, three})
					checkRead(t, three.e)
				}
			}
		}
	}
}

// TestNoKind is promise 5.1: of a kind that is none there is nothing, whatever else it has, and also as a part.
func TestNoKind(t *testing.T) {
	for _, kind := range []int{0, -1, 19, 20, 256 + api.EThis, 1<<32 + api.EThis, math.MinInt, math.MaxInt} {
		e := api.Expr{Kind: kind, Num: 1, Text: "t", Name: "f", Type: "A", L: []api.Expr{name("a"), name("b")}}
		checkExprs(t, []shown{
			{e, ""}, {api.Expr{Kind: kind}, ""}, {bin("+", e, name("a")), " + a"}, {un("-", e), "-"}, {of(api.EField, "f", "", e), ".f"}, {of(api.ESelf, "f", "", e, e), "f(, )"}, {of(api.ECast, "", "A", e), " as A"},
		})
	}
}

// TestOddExprs is the rule that no call panics, of expressions that can't be read: each kind with too little and too much in each part.
func TestOddExprs(t *testing.T) {
	a := name("a")
	for kind := -1; kind < 21; kind++ {
		for n := range 5 {
			for _, x := range []api.Expr{{}, a, bin("", api.Expr{}, api.Expr{}), {Kind: api.EBin}, {Kind: api.EUn}, {Kind: api.ECall}} {
				var l []api.Expr
				for range n {
					l = append(l, x)
				}
				for _, s := range []string{"", "\xff", "\" ) {"} {
					e := api.Expr{Kind: kind, Num: math.MinInt32, Text: s, Name: s, Type: s, L: l, Own: s, Nth: -1}
					if show.Expr(e) != show.Expr(e) {
						t.Fatal("not the same again", e)
					}
				}
			}
		}
	}
	checkExprs(t, []shown{
		{of(api.EBin, "+", ""), " + "}, {of(api.EBin, "+", "", a), "a + "}, {of(api.EBin, "+", "", a, a, a), "a + a"}, {of(api.EUn, "-", ""), "-"}, {of(api.EUn, "-", "", a, a), "-a"},
		{of(api.ECall, "f", ""), ".f()"}, {of(api.EField, "f", ""), ".f"}, {of(api.EField, "f", "", a, a), "a.f"}, {of(api.ECast, "", "A"), " as A"}, {of(api.EIs, "", "A", a, a), "a is A"},
		{of(api.EThis, "f", "A", a), "this"}, {of(api.EName, "f", "A", a), "f"}, {of(api.EStatic, "f", "A", a), "A::f"},
	})
}

// TestOwnText is the rules that nothing is kept of what is handed in, nor changed: the text is new memory, and what is bound does not count.
func TestOwnText(t *testing.T) {
	long := strings.Repeat("x", 50)
	for _, e := range []api.Expr{name(long), of(api.EBin, long, ""), of(api.EUn, long, ""), {Kind: api.EText, Text: long}, of(api.EStatic, "", long)} {
		if got := show.Expr(e); strings.Contains(got, long) && unsafe.StringData(got) == unsafe.StringData(long) {
			t.Fatal("the text is the argument's own")
		}
	}
	for _, x := range oneOfEach() {
		e := x.e
		e.Own, e.Nth = "Z", 77
		kept := e
		kept.L = append([]api.Expr(nil), e.L...)
		if show.Expr(e) != x.want || !reflect.DeepEqual(e, kept) {
			t.Fatal(x.want)
		}
	}
}

// TestAnyDepth is the rule that each call ends: a tree may be deeper than the stack, and wider than any limit.
func TestAnyDepth(t *testing.T) {
	defer debug.SetMaxStack(debug.SetMaxStack(1 << 20))
	const many = 1 << 17
	dots, signs, cast := name("a"), name("a"), name("a")
	var block []api.Stmt
	for i := range many {
		dots, signs, cast = of(api.EField, "b", "", dots), un("-", signs), bin("+", of(api.ECast, "", "A", cast), num(1))
		if i < many/100 {
			block = []api.Stmt{{Kind: api.SWhile, E: []api.Expr{name("a")}, A: block}}
		}
	}
	more := strings.Repeat
	checkExprs(t, []shown{{dots, "a" + more(".b", many)}, {signs, more("-", many) + "a"}, {cast, more("(", many-1) + "a" + more(" as A + 1)", many-1) + " as A + 1"}})
	wide := make([]api.Expr, many)
	for i := range wide {
		wide[i] = num(1)
	}
	checkExprs(t, []shown{{of(api.ENew, "", "A", wide...), "new A(" + more("1, ", many-1) + "1)"}})
	if s := show.Stmt(block[0], 0); strings.Count(s, "while (a) {\n") != many/100 || strings.Count(s, "}\n") != many/100 {
		t.Fatal("a deep statement")
	}
}
