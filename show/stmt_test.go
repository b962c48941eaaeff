package show_test

import (
	"math"
	"strings"
	"testing"

	"changeling/api"
	"changeling/parse"
	"changeling/show"
	"changeling/tree"
)

// on is a statement of that kind with expressions alone.
func on(kind int, e ...api.Expr) api.Stmt { return api.Stmt{Kind: kind, E: e} }

func checkStmt(t *testing.T, s api.Stmt, deep int, want string) {
	t.Helper()
	if got := show.Stmt(s, deep); got != want {
		t.Fatalf("%d: %q, not %q", deep, got, want)
	}
}

// ofCtor is a program with a constructor of those statements.
func ofCtor(l ...api.Stmt) api.Program {
	return api.Program{Classes: []api.Class{{Name: "A", Methods: []api.Method{{Ctor: true, Body: l}}}}}
}

// checkStmtRead is promise 5.4: what is shown of s is read as s.
func checkStmtRead(t *testing.T, s api.Stmt) {
	t.Helper()
	text := "class A { A() {\n" + show.Stmt(s, 0) + "} }"
	if p, code, at := parse.Program(text); code != 0 || !tree.Same(p, ofCtor(s)) {
		t.Fatalf("%s is read otherwise: %d at %d", text, code, at)
	}
}

// stmtShown is a statement, and what it must be shown as without blanks ahead.
type stmtShown struct {
	s    api.Stmt
	want string
}

// plainStmts are statements without BLOCKs.
func plainStmts() []stmtShown {
	a, b := name("a"), name("b")
	sum := bin("+", a, b)
	call := of(api.ESelf, "f", "")
	return []stmtShown{
		{api.Stmt{Kind: api.SVar, Type: "int", Name: "x", E: []api.Expr{num(1)}}, "int x = 1;\n"},
		{api.Stmt{Kind: api.SVar, Type: "A", Name: "x", E: []api.Expr{sum}}, "A x = a + b;\n"},
		{on(api.SAssign, name("x"), num(1)), "x = 1;\n"},
		{on(api.SAssign, of(api.EField, "f", "", sum), sum), "(a + b).f = a + b;\n"},
		{on(api.SAssign, of(api.EStatic, "f", "A"), of(api.ESuperName, "f", "")), "A::f = super.f;\n"},
		{on(api.SExpr, call), "f();\n"},
		{on(api.SExpr, of(api.ECall, "g", "", un("-", a), sum)), "(-a).g(a + b);\n"},
		{on(api.SExpr, of(api.ENew, "", "A")), "new A();\n"},
		{on(api.SReturn), "return;\n"},
		{on(api.SReturn, num(1)), "return 1;\n"},
		{on(api.SReturn, of(api.EField, "f", "", sum)), "return (a + b).f;\n"},
		{on(api.SPrint, num(1)), "print 1;\n"},
		{on(api.SPrint, un("-", a)), "print -a;\n"},
		{on(api.SPrint, quoted("\n")), "print \"\\n\";\n"},
		{api.Stmt{Kind: api.SAssert, Num: 3, E: []api.Expr{a}}, "assert 3 a;\n"},
		{api.Stmt{Kind: api.SAssert, E: []api.Expr{num(0)}}, "assert 0 0;\n"},
		{api.Stmt{Kind: api.SAssert, Num: 9999, E: []api.Expr{un("!", a)}}, "assert 9999 !a;\n"},
		{on(api.SThrow, a), "throw a;\n"},
		{on(api.SThrow, of(api.ENew, "", "A", sum)), "throw new A(a + b);\n"},
		{on(api.SSuper), "super();\n"},
		{on(api.SSuper, num(1)), "super(1);\n"},
		{on(api.SSuper, sum, un("-", a), a), "super(a + b, -a, a);\n"},
	}
}

// TestPlainStmts is promises 5.2 and 5.4: statements without BLOCKs, and their margins.
func TestPlainStmts(t *testing.T) {
	for _, x := range plainStmts() {
		checkStmtRead(t, x.s)
		for deep, blanks := range map[int]int{
			math.MinInt: 0, math.MinInt + 1: 0, -200: 0, -5: 0, -1: 0, 0: 0, 1: 1, 2: 2, 3: 3, 17: 17, 198: 198, 199: 199, 200: 200, 201: 200, 202: 200, 500: 200, math.MaxInt - 1: 200, math.MaxInt: 200,
		} {
			checkStmt(t, x.s, deep, strings.Repeat(" ", blanks)+x.want)
		}
	}
}

// withBlocks are the statements that have BLOCKs, with what l has in one of them; in want, the BLOCK's place is the ~ and each line's margin is still missing.
func withBlocks(l []api.Stmt) []stmtShown {
	a, get := []api.Expr{name("a")}, []api.Stmt{on(api.SReturn)}
	try := func(x, y, z []api.Stmt) api.Stmt {
		return api.Stmt{Kind: api.STry, Type: "C", Name: "x", A: x, B: y, C: z}
	}
	return []stmtShown{
		{api.Stmt{Kind: api.SIf, E: a, A: l}, "if (a) {\n~}\n"},
		{api.Stmt{Kind: api.SIf, E: a, A: l, B: get}, "if (a) {\n~} else {\n  return;\n}\n"},
		{api.Stmt{Kind: api.SIf, E: a, A: get, B: l}, "if (a) {\n  return;\n} else {\n~}\n"},
		{api.Stmt{Kind: api.SIf, E: a, B: l}, "if (a) {\n} else {\n~}\n"},
		{api.Stmt{Kind: api.SWhile, E: a, A: l}, "while (a) {\n~}\n"},
		{try(l, nil, nil), "try {\n~} catch (C x) {\n}\n"},
		{try(nil, l, nil), "try {\n} catch (C x) {\n~}\n"},
		{try(nil, nil, l), "try {\n} catch (C x) {\n} finally {\n~}\n"},
		{try(l, get, get), "try {\n~} catch (C x) {\n  return;\n} finally {\n  return;\n}\n"},
		{try(get, l, nil), "try {\n  return;\n} catch (C x) {\n~}\n"},
		{try(get, get, l), "try {\n  return;\n} catch (C x) {\n  return;\n} finally {\n~}\n"},
	}
}

// indented is s with so many blanks more ahead of each line.
func indented(s string, blanks int) string {
	var b strings.Builder
	for line := range strings.Lines(s) {
		b.WriteString(strings.Repeat(" ", blanks) + line)
	}
	return b.String()
}

// TestBlocks is promises 5.2 and 5.4: statements in each BLOCK, three deep.
func TestBlocks(t *testing.T) {
	within := []stmtShown{{on(api.SReturn), "return;\n"}}
	for range 3 {
		var outer []stmtShown
		for _, x := range within {
			l := []api.Stmt{on(api.SPrint, num(1)), x.s, on(api.SReturn)}
			for _, y := range withBlocks(l) {
				y.want = strings.Replace(y.want, "~", indented("print 1;\n"+x.want+"return;\n", 2), 1)
				outer = append(outer, y)
				checkStmtRead(t, y.s)
				for _, deep := range []int{0, 1, 6, 7} {
					checkStmt(t, y.s, deep, indented(y.want, deep))
				}
			}
		}
		within = outer
	}
}

// TestEmptyBlocks is promise 5.2: else and finally are there only if something is in them, others always.
func TestEmptyBlocks(t *testing.T) {
	a, none := []api.Expr{name("a")}, []api.Stmt{}
	for _, x := range []stmtShown{
		{api.Stmt{Kind: api.SIf, E: a}, "if (a) {\n}\n"},
		{api.Stmt{Kind: api.SIf, E: a, A: none, B: none}, "if (a) {\n}\n"},
		{api.Stmt{Kind: api.SWhile, E: a}, "while (a) {\n}\n"},
		{api.Stmt{Kind: api.STry, Type: "C", Name: "x"}, "try {\n} catch (C x) {\n}\n"},
		{api.Stmt{Kind: api.STry, Type: "C", Name: "x", A: none, B: none, C: none}, "try {\n} catch (C x) {\n}\n"},
	} {
		checkStmtRead(t, x.s)
		for _, deep := range []int{0, 1, 4} {
			checkStmt(t, x.s, deep, indented(x.want, deep))
		}
	}
}

// TestBlockMargins is promise 5.2: the statements of a BLOCK are two deeper than what has it, and blanks are counted only then: none below 0, 200 at most.
func TestBlockMargins(t *testing.T) {
	s := api.Stmt{Kind: api.SWhile, E: []api.Expr{name("a")}, A: []api.Stmt{{Kind: api.SIf, E: []api.Expr{name("b")}, A: []api.Stmt{on(api.SReturn)}}}}
	for deep, blanks := range map[int][3]int{
		0: {0, 2, 4}, 3: {3, 5, 7}, -1: {0, 1, 3}, -2: {0, 0, 2}, -3: {0, 0, 1}, -4: {0, 0, 0}, -9: {0, 0, 0}, math.MinInt: {0, 0, 0},
		195: {195, 197, 199}, 196: {196, 198, 200}, 197: {197, 199, 200}, 199: {199, 200, 200}, 200: {200, 200, 200}, 333: {200, 200, 200}, math.MaxInt - 3: {200, 200, 200}, math.MaxInt: {200, 200, 200},
	} {
		want := strings.NewReplacer("1", strings.Repeat(" ", blanks[0]), "2", strings.Repeat(" ", blanks[1]), "3", strings.Repeat(" ", blanks[2])).Replace("1while (a) {\n2if (b) {\n3return;\n2}\n1}\n")
		checkStmt(t, s, deep, want)
	}
	nested, lines := on(api.SReturn), 150
	for range lines {
		nested = api.Stmt{Kind: api.SWhile, E: []api.Expr{name("a")}, A: []api.Stmt{nested}}
	}
	at := 0
	for line := range strings.Lines(show.Stmt(nested, 0)) {
		deep := min(at, 2*lines-at)
		if blanks := len(line) - len(strings.TrimLeft(line, " ")); blanks != min(2*deep, 200) {
			t.Fatal(at, blanks)
		}
		at++
	}
	if at != 2*lines+1 {
		t.Fatal(at)
	}
}

// TestOddStmts is the rule that no call panics, of statements that can't be read: each kind with too little and too much in each part.
func TestOddStmts(t *testing.T) {
	a := name("a")
	blocks := [][]api.Stmt{nil, {}, {{}}, {on(api.SReturn), {Kind: api.STry}, on(api.SAssign, a)}}
	for kind := -1; kind < 14; kind++ {
		for _, e := range [][]api.Expr{nil, {}, {{}}, {a}, {a, {Kind: api.EBin}}, {a, a, a}} {
			for i := range 64 {
				s := api.Stmt{Kind: kind, Num: math.MinInt32, Type: "\xff", Name: "(", E: e, A: blocks[i%4], B: blocks[i/4%4], C: blocks[i/16], Nth: -1}
				got := show.Stmt(s, i-5)
				if got != show.Stmt(s, i-5) {
					t.Fatal("not the same again", s)
				}
				if none := kind < api.SVar || kind > api.SSuper; none != (got == "") {
					t.Fatalf("%d: %q", kind, got)
				}
			}
		}
	}
	for _, x := range []stmtShown{
		{on(api.SPrint), "print ;\n"}, {on(api.SPrint, a, a), "print a;\n"}, {on(api.SReturn, a, a), "return a;\n"}, {on(api.SAssign, a), "a = ;\n"}, {on(api.SAssign), " = ;\n"}, {on(api.SExpr), ";\n"},
		{on(api.SIf), "if () {\n}\n"}, {api.Stmt{Kind: api.SIf, E: []api.Expr{a}, C: blocks[3]}, "if (a) {\n}\n"}, {api.Stmt{Kind: api.SWhile, E: []api.Expr{a}, B: blocks[3], C: blocks[3]}, "while (a) {\n}\n"}, {api.Stmt{Kind: api.SPrint, Num: 7, Type: "A", Name: "x", E: []api.Expr{a}, A: blocks[3]}, "print a;\n"},
		{api.Stmt{Kind: api.SWhile, E: []api.Expr{a}, A: []api.Stmt{{}, on(api.SReturn), {Kind: 99}}}, "while (a) {\n  return;\n}\n"},
	} {
		checkStmt(t, x.s, 0, x.want)
	}
}
