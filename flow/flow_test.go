package flow_test

import (
	"reflect"
	"testing"

	"changeling/api"
	"changeling/flow"
	"changeling/parse"
)

// body is the statements of a text.
func body(t *testing.T, text string) []api.Stmt {
	t.Helper()
	p, code, at := parse.Program("class A { int f() { " + text + " } }")
	if code != 0 {
		t.Fatal(text, code, at)
	}
	return p.Classes[0].Methods[0].Body
}

// TestPasses is 11.1 by hand: texts by whether one may come to their end.
func TestPasses(t *testing.T) {
	for _, text := range []string{
		"", "int a = 1;", "a = 1;", "f();", "print 1;", "assert 1 false;", "f(); g();",
		"if (a) { }", "if (a) { return 1; }", "if (a) { throw b; }", "if (a) { } else { return 1; }", "if (a) { return 1; } else { }",
		"if (true) { return 1; }", "if (false) { return 1; } else { print 1; }",
		"if (a) { if (b) { return 1; } } else { return 1; }",
		"while (a) { return 1; }", "while (false) { }", "while (!false) { }", "while (!!true) { }", "while (true && true) { }", "while (1 == 1) { throw b; }", "while (a) { while (true) { } }",
		"while (1) { }", "while (-1) { }", `while ("true") { }`, "while (null) { }",
		"try { } catch (B b) { }", "try { return 1; } catch (B b) { }", "try { } catch (B b) { return 1; }", "try { } catch (B b) { } finally { f(); }",
		"try { throw b; } catch (B b) { } finally { if (c) { return 1; } }",
		"try { while (true) { } } catch (B b) { f(); }",
		"try { try { return 1; } catch (B b) { throw b; } } catch (B c) { }",
		"if (a) { return 1; } if (b) { return 2; }",
	} {
		if !flow.Passes(body(t, text)) {
			t.Error("passes:", text)
		}
	}
	for _, text := range []string{
		"return;", "return 1;", "throw a;", "throw null;", "f(); return 1;", "return 1; f();", "return 1; return 2;", "f(); throw a; g();",
		"if (a) { return 1; } else { return 2; }", "if (a) { return 1; } else { throw b; }", "if (a) { throw b; } else { while (true) { } }",
		"if (a) { f(); return 1; g(); } else { throw b; }", "if (a) { } return 1;",
		"if (a) { if (b) { return 1; } else { return 2; } } else { if (c) { return 3; } else { return 4; } }",
		"while (true) { }", "while (true) { return 1; }", "while (true) { if (a) { return 1; } }", "f(); while (true) { } f();",
		"while (a) { return 1; } return 2;",
		"try { return 1; } catch (B b) { return 2; }", "try { throw b; } catch (B b) { throw b; } finally { }", "try { return 1; } catch (B b) { throw b; } finally { f(); }",
		"try { } catch (B b) { } finally { return 1; }", "try { return 1; } catch (B b) { } finally { throw c; }", "try { } catch (B b) { return 1; } finally { while (true) { } }",
		"try { try { return 1; } catch (B b) { throw b; } } catch (B c) { return 2; }",
	} {
		if flow.Passes(body(t, text)) {
			t.Error("does not pass:", text)
		}
	}
}

// TestEndless is 11.1 where a while asks the EBool 1, and nothing else does.
func TestEndless(t *testing.T) {
	yes := api.Expr{Kind: api.EBool, Num: 1}
	not := api.Expr{Kind: api.EUn, Name: "!", L: []api.Expr{yes}}
	stop := []api.Stmt{{Kind: api.SReturn}}
	for _, e := range [][]api.Expr{{yes}, {yes, not}, {{Kind: api.EBool, Num: 1, Own: "A", Nth: 3}}} {
		for _, a := range [][]api.Stmt{nil, {}, {{Kind: api.SExpr}}, stop} {
			if flow.Passes([]api.Stmt{{Kind: api.SWhile, E: e, A: a}}) {
				t.Error(e, a)
			}
		}
	}
	others := [][]api.Expr{nil, {}, {{}}, {not}, {not, yes}, {{L: []api.Expr{yes}}}}
	for kind := -1; kind <= 20; kind++ {
		for _, num := range []int32{-1 << 31, -1, 0, 1, 2, 1<<31 - 1} {
			if kind != api.EBool || num != 1 {
				others = append(others, []api.Expr{{Kind: kind, Num: num}})
			}
		}
	}
	for _, e := range others {
		for _, a := range [][]api.Stmt{nil, {{Kind: api.SExpr}}, stop} {
			if !flow.Passes([]api.Stmt{{Kind: api.SWhile, E: e, A: a}}) {
				t.Error(e, a)
			}
		}
	}
}

// TestKinds is 11.1 of all Kinds, and of those that are none, with parts that their Kind has not: only some of SIf and STry are asked.
func TestKinds(t *testing.T) {
	stop, pass := []api.Stmt{{Kind: api.SThrow}}, []api.Stmt{{Kind: api.SPrint}}
	for _, kind := range []int{-1 << 63, -4, -1, 0, 1, 2, 3, 4, 5, 6, 7, 8, 9, 10, 11, 12, 13, 20, 1<<63 - 1} {
		for way := range 8 {
			s := api.Stmt{Kind: kind, A: pass, B: pass, C: pass}
			a, b, c := way&1 == 0, way&2 == 0, way&4 == 0
			if !a {
				s.A = stop
			}
			if !b {
				s.B = stop
			}
			if !c {
				s.C = stop
			}
			want := true
			switch kind {
			case api.SReturn, api.SThrow:
				want = false
			case api.SIf:
				want = a || b
			case api.STry:
				want = (a || b) && c
			}
			if flow.Passes([]api.Stmt{s}) != want {
				t.Error(kind, way)
			}
		}
	}
}

// TestCheck is 11.1: constructors and void ones may end as they like, all others must not come to their end.
func TestCheck(t *testing.T) {
	stop, pass := []api.Stmt{{Kind: api.SReturn}}, []api.Stmt{{Kind: api.SPrint}}
	for _, kind := range []string{"int", "boolean", "String", "A", "Exception", "", "null", "Void", "void ", "voi"} {
		for _, b := range [][]api.Stmt{stop, pass, nil, {}, append(pass, stop...), append(stop, pass...)} {
			m := api.Method{Type: kind, Name: "f", Body: b}
			if flow.Check(m) == flow.Passes(b) {
				t.Error(kind, b)
			}
			m.Static, m.Params = true, []api.Param{{Type: "int", Name: "a"}}
			if flow.Check(m) == flow.Passes(b) {
				t.Error("static", kind, b)
			}
			m.Type = "void"
			if !flow.Check(m) {
				t.Error("void", b)
			}
			m.Type, m.Ctor = kind, true
			if !flow.Check(m) {
				t.Error("constructor", kind, b)
			}
		}
	}
	if flow.Check(api.Method{}) || !flow.Check(api.Method{Ctor: true}) || !flow.Check(api.Method{Type: "void"}) {
		t.Error("of nothing")
	}
}

// TestEmpty is rule 5 of the document: a nil list is an empty one, also one with room behind it.
func TestEmpty(t *testing.T) {
	room := make([]api.Stmt, 0, 4)
	room = append(room, api.Stmt{Kind: api.SReturn})[:0]
	if !flow.Passes(nil) || !flow.Passes([]api.Stmt{}) || !flow.Passes(room) {
		t.Error("outermost")
	}
	stop := []api.Stmt{{Kind: api.SReturn}}
	for _, none := range [][]api.Stmt{nil, {}, room} {
		if !flow.Passes([]api.Stmt{{Kind: api.SIf, A: stop, B: none}, {Kind: api.STry, A: stop, B: none, C: none}}) {
			t.Error("within")
		}
	}
	if flow.Passes(room[:1]) || !flow.Passes([]api.Stmt{{Kind: api.SIf, A: room[:1], B: room}}) {
		t.Error("lists that begin at one place")
	}
}

// TestUnchanged is rule 2 of the document.
func TestUnchanged(t *testing.T) {
	text := "int a = 1; while (a < 3) { a = a + 1; if (a == 2) { return 1; } else { } } try { throw b; } catch (B b) { print 1; } finally { f(); } while (true) { return 2; }"
	m := api.Method{Type: "int", Name: "f", Body: body(t, text)}
	for range 3 {
		if flow.Passes(m.Body) || !flow.Check(m) {
			t.Fatal("another answer")
		}
	}
	if !reflect.DeepEqual(m.Body, body(t, text)) {
		t.Fatal("what was handed in is changed")
	}
}
