package tree_test

import (
	"math"
	"slices"
	"strings"
	"testing"

	"changeling/api"
	"changeling/tree"
)

// inBody is a program with a method, or a constructor, of that body.
func inBody(ctor bool, l ...api.Stmt) api.Program {
	m := api.Method{Type: "void", Name: "m", Body: l}
	if ctor {
		m = api.Method{Ctor: true, Body: l}
	}
	return api.Program{Classes: []api.Class{{Name: "A", Methods: []api.Method{m}}}}
}

func check(t *testing.T, p api.Program, want bool, what ...any) {
	t.Helper()
	if tree.May(p) != want {
		t.Fatal(append([]any{"May is", !want, "of"}, what...)...)
	}
}

// goodNames and so on are values of a part, those that fit ahead of those that fit nothing.
var (
	goodNames   = []string{"a", "zZ9", "aaaaaaaaaaaaaaaaaaaa", "string", "e"}
	badNames    = []string{"A", "9", "a_", "if", "is", "this", "aaaaaaaaaaaaaaaaaaaaa", "\xff", "é", " ", "int"}
	goodClasses = []string{"A", "Zz9", "Aaaaaaaaaaaaaaaaaaaa", "Exception", "Strings"}
	badClasses  = []string{"a", "String", "int", "boolean", "void", "null", "A_", "Aaaaaaaaaaaaaaaaaaaaa", "\xff", "A "}
	binaries    = []string{"+", "-", "*", "/", "%", "@", "<", "<=", "==", "!=", "&&", "||"}
	unaries     = []string{"-", "!", "#"}
)

// texts are the good and the bad ones and the empty one, each once.
func texts(lists ...[]string) []string {
	all := slices.Concat(lists...)
	all = append(all, "")
	slices.Sort(all)
	return slices.Compact(all)
}

// exprRule is what api tells of a kind: what fits each part (nil: only the zero value), and of how many L is, at least and at most.
type exprRule struct {
	nums               []int32
	texts, names, refs []string
	least, most        int
}

func exprRules() map[int]exprRule {
	n, c := goodNames, goodClasses
	const many = math.MaxInt
	return map[int]exprRule{
		api.EInt:       {nums: []int32{0, 1, 2, math.MaxInt32}},
		api.EBool:      {nums: []int32{0, 1}},
		api.EText:      {texts: []string{"", "x", "\ufffd", "\x00\n\"\\"}},
		api.ENull:      {},
		api.EThis:      {},
		api.EName:      {names: n},
		api.EField:     {names: n, least: 1, most: 1},
		api.ESuperName: {names: n},
		api.EStatic:    {names: n, refs: c},
		api.ECall:      {names: n, least: 1, most: many},
		api.ESelf:      {names: n, most: many},
		api.ESuperCall: {names: n, most: many},
		api.EStatCall:  {names: n, refs: c, most: many},
		api.ENew:       {refs: c, most: many},
		api.ECast:      {refs: c, least: 1, most: 1},
		api.EIs:        {refs: c, least: 1, most: 1},
		api.EBin:       {names: binaries, least: 2, most: 2},
		api.EUn:        {names: unaries, least: 1, most: 1},
	}
}

// fitting tells whether x is one of those that fit, or zero where none is named.
func fitting[T comparable](x T, fit []T) bool {
	var zero T
	if fit == nil {
		return x == zero
	}
	return slices.Contains(fit, x)
}

// TestMayExprs is promise 3.2: of each kind of expression each part with each value, all with one another.
func TestMayExprs(t *testing.T) {
	rules := exprRules()
	names := texts(goodNames[:2], badNames[:4], binaries, unaries, []string{"^", ">", "=", "!!", "<<", "+ "})
	refs := texts(goodClasses[:2], badClasses[:4])
	for _, kind := range append(slices.Collect(ints(-3, 25)), math.MinInt, math.MaxInt, 257, 1<<32+1) {
		r, is := rules[kind]
		for _, num := range []int32{math.MinInt32, -1, 0, 1, 2, math.MaxInt32} {
			for _, text := range []string{"", "x", "\ufffd", "\x00\n\"\\", "\xff", "a\xc3"} {
				for _, nam := range names {
					for _, ref := range refs {
						for l := range 4 {
							e := api.Expr{Kind: kind, Num: num, Text: text, Name: nam, Type: ref, Own: "?", Nth: -9}
							for range l {
								e.L = append(e.L, name("x"))
							}
							want := is && fitting(num, r.nums) && fitting(text, r.texts) && fitting(nam, r.names) && fitting(ref, r.refs) && l >= r.least && l <= r.most
							check(t, inBody(false, on(api.SPrint, e)), want, e)
						}
					}
				}
			}
		}
	}
}

// ints are the numbers from a up to b.
func ints(a, b int) func(func(int) bool) {
	return func(yield func(int) bool) {
		for i := a; i < b && yield(i); i++ {
		}
	}
}

// TestMayNames is promise 3.2: each name, each class and each sign, wherever one stands in an expression.
func TestMayNames(t *testing.T) {
	rules := exprRules()
	for _, e := range everyExpr() {
		r := rules[e.Kind]
		check(t, inBody(false, on(api.SPrint, e)), true, e)
		for _, s := range texts(goodNames, badNames, goodClasses, badClasses, binaries, unaries) {
			x := e
			x.Name = s
			check(t, inBody(false, on(api.SPrint, x)), fitting(s, r.names), x)
			x = e
			x.Type = s
			check(t, inBody(false, on(api.SPrint, x)), fitting(s, r.refs), x)
		}
		for i := range e.L {
			x := e
			x.L = slices.Clone(e.L)
			x.L[i] = api.Expr{Kind: api.EName, Name: "A"}
			check(t, inBody(false, on(api.SPrint, x)), false, x)
			check(t, inBody(false, on(api.SPrint, un("-", x))), false, x)
		}
	}
	for a := range rune(128) {
		for b := range rune(128) {
			for _, s := range []string{string(a), string(a) + string(b)} {
				check(t, inBody(false, on(api.SPrint, bin(s, num(1), num(2)))), slices.Contains(binaries, s), s)
				check(t, inBody(false, on(api.SPrint, un(s, num(1)))), slices.Contains(unaries, s), s)
			}
		}
	}
}

// TestMayTexts is promise 3.2: of UTF-8, MaxText bytes at most.
func TestMayTexts(t *testing.T) {
	for _, c := range []struct {
		s    string
		want bool
	}{
		{"", true}, {"\xff", false}, {"\ufffd", true}, {"a\xe2\x82", false}, {"\xed\xa0\x80", false}, {"\u20ac\U0001f600", true},
		{strings.Repeat("a", 1000), true}, {strings.Repeat("a", 1001), false}, {strings.Repeat("é", 500), true}, {strings.Repeat("é", 501), false},
		{strings.Repeat("\n", 999) + "é", false}, {strings.Repeat("a", 998) + "é", true}, {strings.Repeat("a", 999) + "\xc3", false}, {strings.Repeat("a", 1<<24), false},
	} {
		check(t, inBody(false, on(api.SPrint, api.Expr{Kind: api.EText, Text: c.s})), c.want, c.s[:min(9, len(c.s))], len(c.s))
	}
}

// stmtRule is what api tells of a kind: what fits each part, of how many E is, and which blocks there may be.
type stmtRule struct {
	nums        []int32
	refs, names []string
	least, most int
	blocks      string
	first       []int // kinds of E[0]; nil: any
}

func valueTypes() []string { return append([]string{"int", "boolean", "String"}, goodClasses...) }

func stmtRules() map[int]stmtRule {
	places := []int{api.EName, api.EField, api.ESuperName, api.EStatic}
	calls := []int{api.ECall, api.ESelf, api.ESuperCall, api.EStatCall, api.ENew}
	return map[int]stmtRule{
		api.SVar:    {refs: valueTypes(), names: goodNames, least: 1, most: 1},
		api.SAssign: {least: 2, most: 2, first: places},
		api.SExpr:   {least: 1, most: 1, first: calls},
		api.SIf:     {least: 1, most: 1, blocks: "AB"},
		api.SWhile:  {least: 1, most: 1, blocks: "A"},
		api.SReturn: {most: 1},
		api.SPrint:  {least: 1, most: 1},
		api.SAssert: {nums: []int32{0, 1, 9999}, least: 1, most: 1},
		api.SThrow:  {least: 1, most: 1},
		api.STry:    {refs: goodClasses, names: goodNames, blocks: "ABC"},
	}
}

// TestMayStmts is promise 3.2: of each kind of statement each part with each value, all with one another; SSuper is none that may stand there.
func TestMayStmts(t *testing.T) {
	rules := stmtRules()
	refs := texts(valueTypes()[:4], badClasses[:6])
	names := texts(goodNames[:2], badNames[:4])
	return1 := []api.Stmt{on(api.SReturn)}
	for _, kind := range append(slices.Collect(ints(-3, 16)), math.MinInt, math.MaxInt, 258, 1<<32+6) {
		r, is := rules[kind]
		for _, num := range []int32{math.MinInt32, -1, 0, 1, 9999, 10000, math.MaxInt32} {
			for _, ref := range refs {
				for _, nam := range names {
					for _, l := range [][]api.Expr{nil, {name("a")}, {self("f")}, {name("a"), num0()}, {self("f"), num0()}, {name("a"), num0(), num0()}} {
						for blocks := range 8 {
							s := api.Stmt{Kind: kind, Num: num, Type: ref, Name: nam, E: l, Nth: -9}
							want := is && fitting(num, r.nums) && fitting(ref, r.refs) && fitting(nam, r.names) && len(l) >= r.least && len(l) <= r.most && (r.first == nil || len(l) > 0 && slices.Contains(r.first, l[0].Kind))
							for i, to := range []*[]api.Stmt{&s.A, &s.B, &s.C} {
								if blocks>>i&1 == 1 {
									*to = return1
									want = want && strings.Contains(r.blocks, "ABC"[i:i+1])
								}
							}
							check(t, inBody(false, s), want, s)
						}
					}
				}
			}
		}
	}
}

func num0() api.Expr { return num(0) }

// TestMayFirstParts is promise 3.2: what stands at the left of an SAssign, and what is an SExpr; SAssign's other side and all others may be anything.
func TestMayFirstParts(t *testing.T) {
	rules := stmtRules()
	for _, e := range everyExpr() {
		for kind, r := range rules {
			if r.least == 0 {
				continue
			}
			s := api.Stmt{Kind: kind, E: []api.Expr{e}}
			if kind == api.SVar {
				s.Type, s.Name = "int", "a"
			}
			if kind == api.SAssign {
				s.E = append(s.E, name("b"))
			}
			want := r.first == nil || slices.Contains(r.first, e.Kind)
			check(t, inBody(false, s), want, s)
			check(t, inBody(false, api.Stmt{Kind: api.STry, Type: "A", Name: "e", B: []api.Stmt{s}}), want, s)
		}
		check(t, inBody(false, on(api.SAssign, name("a"), e)), true, e)
		check(t, inBody(false, on(api.SReturn, e)), true, e)
		check(t, inBody(true, on(api.SSuper, e, e)), true, e)
	}
}

// TestMaySuper is promise 3.2: an SSuper is the first one of a constructor's Body, and nowhere else; its own parts are expressions alone.
func TestMaySuper(t *testing.T) {
	s := on(api.SSuper)
	x := on(api.SReturn)
	check(t, inBody(true, s), true, "alone")
	check(t, inBody(true, s, x, x), true, "first")
	check(t, inBody(true, x, x), true, "none")
	check(t, inBody(true), true, "no statement")
	check(t, inBody(true, on(api.SSuper, name("a"), num(1), un("-", num(2)))), true, "with arguments")
	check(t, inBody(true, x, s), false, "second")
	check(t, inBody(true, s, s), false, "twice")
	check(t, inBody(true, s, x, s), false, "first and third")
	check(t, inBody(false, s), false, "a method's first")
	check(t, inBody(false, x, s), false, "a method's second")
	in := []api.Stmt{s}
	for i, b := range []api.Stmt{{Kind: api.SIf, E: []api.Expr{name("a")}, A: in}, {Kind: api.SIf, E: []api.Expr{name("a")}, B: in}, {Kind: api.SWhile, E: []api.Expr{name("a")}, A: in}, {Kind: api.STry, Type: "A", Name: "e", A: in}, {Kind: api.STry, Type: "A", Name: "e", B: in}, {Kind: api.STry, Type: "A", Name: "e", C: in}} {
		check(t, inBody(true, b), false, i)
		check(t, inBody(true, s, b), false, i)
		check(t, inBody(false, b), false, i)
	}
	for i, b := range []api.Stmt{{Kind: api.SSuper, Num: 1}, {Kind: api.SSuper, Type: "A"}, {Kind: api.SSuper, Name: "a"}, {Kind: api.SSuper, A: []api.Stmt{x}}, {Kind: api.SSuper, B: []api.Stmt{x}}, {Kind: api.SSuper, C: []api.Stmt{x}}, on(api.SSuper, api.Expr{})} {
		check(t, inBody(true, b), false, i)
	}
	check(t, inBody(true, api.Stmt{Kind: api.SSuper, Nth: -7}), true, "Nth is not asked")
}

// TestMayMembers is promise 3.2: classes, fields, methods, constructors and parameters, with each name and each type.
func TestMayMembers(t *testing.T) {
	one := func(c api.Class) api.Program {
		return api.Program{Classes: []api.Class{{Name: "First"}, c, {Name: "First"}}}
	}
	for _, s := range texts(goodNames, badNames, goodClasses, badClasses) {
		isName, isClass := slices.Contains(goodNames, s), slices.Contains(goodClasses, s)
		isType := isClass || s == "int" || s == "boolean" || s == "String"
		check(t, one(api.Class{Name: s}), isClass, s)
		check(t, one(api.Class{Name: "A", Super: s}), isClass || s == "", s)
		for _, static := range []bool{false, true} {
			field := func(kind, name string, init ...api.Expr) api.Program {
				return one(api.Class{Name: "A", Fields: []api.Field{{Static: static, Type: kind, Name: name, Init: init}}})
			}
			check(t, field(s, "f"), isType, s)
			check(t, field("int", s), isName, s)
			check(t, field("int", "f", num0()), true, s)
			check(t, field("int", "f", name(s)), isName, s)
			check(t, field("int", "f", num0(), num0()), false, s)
			method := func(ctor bool, kind, name string, params ...api.Param) api.Program {
				return one(api.Class{Name: "A", Methods: []api.Method{{Static: static, Ctor: ctor, Type: kind, Name: name, Params: params}}})
			}
			check(t, method(false, s, "m"), isType || s == "void", s)
			check(t, method(false, "void", s), isName, s)
			check(t, method(true, s, ""), s == "" && !static, s)
			check(t, method(true, "", s), s == "" && !static, s)
			for _, ctor := range []bool{false, true} {
				kind, name, may := "int", "m", true
				if ctor {
					kind, name, may = "", "", !static
				}
				check(t, method(ctor, kind, name, api.Param{Type: s, Name: "a"}), isType && may, s)
				check(t, method(ctor, kind, name, api.Param{Type: "int", Name: s}), isName && may, s)
				check(t, method(ctor, kind, name, api.Param{Type: "A", Name: "a"}, api.Param{Type: s, Name: s}), false, s)
			}
		}
	}
	check(t, one(api.Class{Name: "A", Super: "A", Fields: []api.Field{{Type: "int", Name: "f"}, {Type: "A", Name: "f"}}}), true, "what 6 and 7 refuse is not asked")
}

// TestMayHowMany is promise 3.2: the limits, at them and one above.
func TestMayHowMany(t *testing.T) {
	for n := range 64 {
		classes := make([]api.Class, n)
		for i := range classes {
			classes[i].Name = "A"
		}
		check(t, api.Program{Classes: classes}, n <= 20, n, "classes")
		fields, methods, params := make([]api.Field, n), make([]api.Method, n), make([]api.Param, n)
		for i := range n {
			fields[i] = api.Field{Type: "int", Name: "a"}
			methods[i] = api.Method{Type: "int", Name: "a"}
			params[i] = api.Param{Type: "int", Name: "a"}
		}
		check(t, api.Program{Classes: []api.Class{{Name: "A", Fields: fields, Methods: methods[:min(n, 30)]}}}, n <= 30, n, "fields")
		check(t, api.Program{Classes: []api.Class{{Name: "A", Fields: fields[:min(n, 30)], Methods: methods}}}, n <= 30, n, "methods")
		check(t, api.Program{Classes: []api.Class{{Name: "A", Methods: []api.Method{{Type: "int", Name: "a", Params: params}}}}}, n <= 6, n, "parameters")
		check(t, api.Program{Classes: []api.Class{{Name: "A", Methods: []api.Method{{Ctor: true, Params: params}}}}}, n <= 6, n, "parameters of a constructor")
	}
	for _, n := range []int{20, 21, 1 << 20} {
		full := slices.Repeat([]api.Class{{Name: "A", Fields: slices.Repeat([]api.Field{{Type: "int", Name: "f"}}, 30), Methods: slices.Repeat([]api.Method{{Type: "int", Name: "f"}}, 30)}}, n)
		check(t, api.Program{Classes: full}, n == 20, n, "full classes")
	}
}

// TestMayNodes is promise 3.2: MaxNodes nodes, of whatever sort, in one class or in several.
func TestMayNodes(t *testing.T) {
	for n := 2995; n < 3005; n++ {
		args := slices.Repeat([]api.Expr{name("a")}, n)
		stmts := slices.Repeat([]api.Stmt{on(api.SReturn)}, n)
		half := n / 2
		for i, p := range []api.Program{
			inBody(false, stmts[2:]...),
			inBody(true, on(api.SSuper, args[3:]...)),
			inBody(false, on(api.SExpr, self("f", args[4:]...))),
			inBody(false, api.Stmt{Kind: api.STry, Type: "A", Name: "e", A: stmts[:half], B: stmts[half : n-100], C: stmts[n-97:]}),
			{Classes: []api.Class{{Name: "A", Fields: []api.Field{{Type: "int", Name: "f", Init: []api.Expr{self("f", args[3:]...)}}}}}},
			{Classes: []api.Class{{Name: "A", Methods: []api.Method{{Ctor: true, Body: stmts[:half]}}}, {Name: "A", Methods: []api.Method{{Ctor: true, Body: stmts[half+4:]}}}}},
		} {
			if tree.Nodes(p) != n {
				t.Fatal(i, n, tree.Nodes(p))
			}
			check(t, p, n <= 3000, i, n)
		}
	}
}

// deeper are all ways in which an expression holds another one.
func deeper(e api.Expr) []api.Expr {
	a := name("a")
	return []api.Expr{
		{Kind: api.EField, Name: "f", L: []api.Expr{e}},
		{Kind: api.ECall, Name: "m", L: []api.Expr{e}},
		{Kind: api.ECall, Name: "m", L: []api.Expr{a, a, e}},
		self("m", e), self("m", a, e),
		{Kind: api.ESuperCall, Name: "m", L: []api.Expr{a, e}},
		{Kind: api.EStatCall, Type: "A", Name: "m", L: []api.Expr{e}},
		{Kind: api.ENew, Type: "A", L: []api.Expr{e}},
		{Kind: api.ECast, Type: "A", L: []api.Expr{e}},
		{Kind: api.EIs, Type: "A", L: []api.Expr{e}},
		bin("+", e, a), bin("&&", a, e), un("#", e),
	}
}

// deeperStmts are all ways in which a statement holds another one.
func deeperStmts(s api.Stmt) []api.Stmt {
	c, in := []api.Expr{name("a")}, []api.Stmt{on(api.SReturn), s}
	return []api.Stmt{
		{Kind: api.SIf, E: c, A: in}, {Kind: api.SIf, E: c, B: in}, {Kind: api.SWhile, E: c, A: in},
		{Kind: api.STry, Type: "A", Name: "e", A: in}, {Kind: api.STry, Type: "A", Name: "e", B: in}, {Kind: api.STry, Type: "A", Name: "e", C: in},
	}
}

// holders are the statements that hold an expression as deep as they are.
func holders(e api.Expr) []api.Stmt {
	return []api.Stmt{
		{Kind: api.SVar, Type: "int", Name: "a", E: []api.Expr{e}}, on(api.SAssign, name("a"), e), {Kind: api.SIf, E: []api.Expr{e}}, {Kind: api.SWhile, E: []api.Expr{e}},
		on(api.SReturn, e), on(api.SPrint, e), {Kind: api.SAssert, E: []api.Expr{e}}, on(api.SThrow, e),
	}
}

// TestMayDeep is promise 3.2: nothing deeper than MaxDeep, by each way of standing within, statements and expressions together.
func TestMayDeep(t *testing.T) {
	for stmts := 1; stmts <= 42; stmts++ {
		for exprs := 1; exprs <= 42; exprs++ {
			e := name("a")
			for i := range exprs - 1 {
				ways := deeper(e)
				e = ways[(i+stmts)%len(ways)]
			}
			check(t, api.Program{Classes: []api.Class{{Name: "A", Fields: []api.Field{{Type: "int", Name: "f", Init: []api.Expr{e}}}}}}, exprs <= 40, exprs, "of an Init")
			check(t, inBody(true, on(api.SSuper, e)), exprs <= 40, exprs, "of an SSuper")
			for _, s := range holders(e) {
				for i := range stmts - 1 {
					ways := deeperStmts(s)
					s = ways[(i+exprs)%len(ways)]
				}
				check(t, inBody(exprs%2 == 0, s), stmts+exprs-1 <= 40, stmts, exprs)
			}
		}
	}
	for _, way := range ints2(len(deeper(api.Expr{}))) {
		e := name("a")
		for deep := 1; deep < 45; deep++ {
			check(t, inBody(false, on(api.SPrint, e)), deep <= 40, deep, e.Kind)
			e = deeper(e)[way]
		}
	}
	for _, way := range ints2(len(deeperStmts(api.Stmt{}))) {
		s := on(api.SReturn)
		for deep := 1; deep < 45; deep++ {
			check(t, inBody(false, s), deep <= 40, deep, s.Kind)
			s = deeperStmts(s)[way]
		}
	}
}

func ints2(n int) []int { return slices.Collect(ints(0, n)) }

// TestMayFull is promise 3.2: no classes may be; one of everything may be, bound or not, with nil or with empty lists; what is asked is not changed.
func TestMayFull(t *testing.T) {
	check(t, api.Program{}, true, "no classes")
	check(t, api.Program{Classes: []api.Class{}}, true, "no classes")
	check(t, api.Program{Classes: make([]api.Class, 1)}, false, "a class without a name")
	for i, p := range []api.Program{full(), emptied(full()), bound(full(), "", -1), bound(full(), "\xff", 1<<40), tree.Bare(full())} {
		kept := copied(p)
		check(t, p, true, i)
		if !tree.Same(p, kept) {
			t.Fatal(i)
		}
	}
}

// TestMayEnds is the rule that every call ends: a list that holds itself is deeper, or more, than may be.
func TestMayEnds(t *testing.T) {
	l := []api.Expr{self("f"), self("f")}
	l[1].L = l
	check(t, inBody(false, on(api.SPrint, self("f", l...))), false, "an expression within itself")
	b := []api.Stmt{{Kind: api.SWhile, E: []api.Expr{num0()}}}
	b[0].A = b
	check(t, inBody(false, b...), false, "a statement within itself")
	e := name("a")
	for range 39 {
		e = bin("+", e, e)
	}
	check(t, inBody(false, on(api.SPrint, e)), false, "2^40 of one expression")
}
