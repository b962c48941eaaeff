package bind_test

import (
	"reflect"
	"slices"
	"strconv"
	"strings"
	"testing"

	"changeling/api"
	"changeling/bind"
	"changeling/parse"
	"changeling/tree"
)

// made is the program of a text.
func made(s string) api.Program {
	p, code, at := parse.Program(s)
	if code != 0 {
		panic("no program: " + s + " " + strconv.Itoa(code) + " " + strconv.Itoa(at))
	}
	return p
}

// names are the errors by which tests tell codes.
func names() map[string]int {
	return map[string]int{
		"fine": api.OK, "ErrArg": api.ErrArg, "ErrTwice": api.ErrTwice, "ErrClass": api.ErrClass, "ErrCycle": api.ErrCycle, "ErrOver": api.ErrOver, "ErrName": api.ErrName,
		"ErrMethod": api.ErrMethod, "ErrVague": api.ErrVague, "ErrStatic": api.ErrStatic, "ErrType": api.ErrType, "ErrReturn": api.ErrReturn, "ErrCast": api.ErrCast,
	}
}

// told is how a code and a place are told: "fine", or the error and the place with a blank between.
func told(code int, where string) string {
	for name, c := range names() {
		if c == code {
			return strings.TrimSuffix(name+" "+where, " ")
		}
	}
	return "code " + strconv.Itoa(code) + " " + where
}

// ask is told of p, which all calls must tell the same of.
func ask(t *testing.T, p api.Program) string {
	t.Helper()
	code, where := bind.Check(p)
	b, c, w := bind.Program(p)
	if c != code || w != where {
		t.Fatalf("Check is %s, but Program is %s, of %v", told(code, where), told(c, w), p)
	}
	if code == 0 && (!tree.Same(b, p) || where != "") {
		t.Fatalf("%v is bound as %v, %q", p, b, where)
	}
	if code != 0 && (!reflect.DeepEqual(b, api.Program{}) || len(bind.Tests(p)) != 0) {
		t.Fatalf("beside the error %d of %v are %v, %v", code, p, b, bind.Tests(p))
	}
	return told(code, where)
}

// house is the classes that most tests ask about.
const house = `
class A {
	int x = 1; static B s; A n; boolean z; static String t = "a";
	A() { }
	A(int a) { x = a; }
	A(B b, A a) { }
	A(A a, B b) { }
	int f(int a) { return 1; }
	static void g() { }
	static A k() { return null; }
	void v() { }
	boolean w(A a) { return true; }
}
class B extends A { String x; static int c; B() { } B(String a) { } }
class C { C(int a) { } }
class E extends Exception { int n; E() { } E(int a) { } }
class F extends NullFault { }
`

// check holds programs against what is told of them, in lines of "fine: text" or "ErrName H.m: text": house, and behind it the text, within class H unless it is one of classes.
func check(t *testing.T, lines string) {
	t.Helper()
	for line := range strings.SplitSeq(strings.TrimSpace(lines), "\n") {
		want, text, is := strings.Cut(strings.TrimSpace(line), ": ")
		if !is {
			t.Fatal("no line:", line)
		}
		if !strings.HasPrefix(text, "class ") {
			text = "class H extends A { int h; static int i; E e; " + text + " }"
		}
		if got := ask(t, made(house+text)); got != want {
			t.Fatalf("%s is %s, not %s", text, got, want)
		}
	}
}

// TestHeads is promise 12.1: what kin, field and method find, in this turn, and the class's name.
func TestHeads(t *testing.T) {
	check(t, `
		fine: class G { }
		ErrTwice A: class A { }
		ErrTwice Exception: class Exception { }
		ErrTwice G: class G { } class G { }
		ErrClass G: class G extends None { }
		ErrCycle G: class G extends L { } class L extends G { }
		ErrCycle G: class G extends G { }
		ErrTwice G: class G { int a; boolean a; }
		ErrClass G: class G { None a; }
		ErrTwice G: class G { void f() { } int f() { return 1; } }
		ErrTwice G: class G { G() { } G() { } }
		ErrTwice G: class G { void f(int a, int a) { } }
		ErrClass G: class G { void f(None a) { } }
		ErrClass G: class G { None f() { return null; } }
		ErrOver G: class G extends A { boolean f(int a) { return true; } }
		ErrOver G: class G extends A { void g() { } }
		ErrClass L: class G { void f() { } int f() { return 1; } } class L { None a; }
		ErrClass L: class G { int a; int a; } class L extends None { }
		ErrTwice L: class G { void f(None a) { } } class L { int a; int a; }
		ErrClass L: class G extends L { } class L extends None { }
		ErrTwice G: class G { int a = true; int b; int b; }
		ErrTwice L: class G { int f() { } } class L { int a; int a; }
		ErrOver L: class G { void f() { q = 1; } } class L extends A { void g() { } }`)
	if got := ask(t, api.Program{}); got != "fine" {
		t.Fatal(got)
	}
}

// TestArg is promise 12.1: what tree.May refuses, whatever else is wrong.
func TestArg(t *testing.T) {
	one := func(c api.Class) api.Program { return api.Program{Classes: []api.Class{c}} }
	body := func(l ...api.Stmt) api.Program {
		return one(api.Class{Name: "A", Methods: []api.Method{{Type: "void", Name: "f", Body: l}}})
	}
	null := []api.Expr{{Kind: api.ENull}}
	for i, p := range []api.Program{
		one(api.Class{}), one(api.Class{Name: "a"}), one(api.Class{Name: "String"}), one(api.Class{Name: "A", Super: "int"}),
		{Classes: make([]api.Class, 3)},
		{Classes: []api.Class{{Name: "A"}, {Name: "A"}, {Name: "?"}}},
		one(api.Class{Name: "A", Fields: []api.Field{{Type: "void", Name: "x"}}}),
		one(api.Class{Name: "A", Fields: []api.Field{{Type: "int", Name: "X"}}}),
		one(api.Class{Name: "A", Fields: []api.Field{{Type: "A", Name: "x", Init: append(null, null...)}}}),
		one(api.Class{Name: "A", Methods: []api.Method{{Ctor: true, Static: true}}}),
		one(api.Class{Name: "A", Methods: []api.Method{{Ctor: true, Type: "void"}}}),
		one(api.Class{Name: "A", Methods: []api.Method{{Name: "f"}}}),
		one(api.Class{Name: "A", Methods: []api.Method{{Type: "void", Name: "f", Params: []api.Param{{Type: "void", Name: "a"}}}}}),
		body(api.Stmt{}), body(api.Stmt{Kind: 12}), body(api.Stmt{Kind: -1}), body(api.Stmt{Kind: api.SSuper}),
		body(api.Stmt{Kind: api.SVar, Type: "A", Name: "a"}), body(api.Stmt{Kind: api.SVar, Type: "", Name: "a", E: null}),
		body(api.Stmt{Kind: api.SAssign, E: null}), body(api.Stmt{Kind: api.SAssign, E: append(null, null...)}),
		body(api.Stmt{Kind: api.SExpr}), body(api.Stmt{Kind: api.SExpr, E: null}), body(api.Stmt{Kind: api.SIf}), body(api.Stmt{Kind: api.SWhile}),
		body(api.Stmt{Kind: api.SPrint}), body(api.Stmt{Kind: api.SAssert}), body(api.Stmt{Kind: api.SThrow}), body(api.Stmt{Kind: api.STry, Name: "e"}),
		body(api.Stmt{Kind: api.SReturn, E: append(null, null...)}), body(api.Stmt{Kind: api.SThrow, E: null, Num: 1}),
	} {
		if got := ask(t, p); got != "ErrArg" {
			t.Fatal(i, p, got)
		}
	}
}

// TestInits is promise 12.1: fields' Inits, where they stand.
func TestInits(t *testing.T) {
	check(t, `
		fine: int a = 1; boolean b = 1 < 2; String c = "" + 1; A d = new B(); A o = null; B j = null; A l = n;
		ErrType H.a: int a = true;
		ErrType H.a: int a = null;
		ErrType H.a: String a = null;
		ErrType H.a: boolean a = "true";
		ErrType H.a: B a = new A();
		ErrType H.a: C a = new A();
		ErrType H.a: int a = g();
		ErrType H.a: A a = g();
		ErrName H.a: int a = q;
		fine: int a = a; int b = c; int c = b;
		fine: static int a = a;
		fine: int a = h + x + i + super.x + this.h; A d = this; H o = this;
		ErrStatic H.a: static int a = h;
		ErrStatic H.a: static int a = x;
		ErrStatic H.a: static int a = super.x;
		ErrStatic H.a: static A a = this;
		ErrStatic H.a: static boolean a = w(null);
		fine: static int a = i; static A b = k(); static A c = new A(i); static String d = t;
		fine: boolean a = w(this); int b = f(f(1));
		ErrMethod H.a: int a = f(true);
		ErrVague H.a: A a = new A(null, null);
		ErrCast H.a: A a = n as C;
		ErrClass H.a: A a = None::x;
		ErrType H.a: int a = true; int b = q;
		ErrName H.b: int a = 1; int b = q; int c = true;
		ErrName H.b: int a; void m() { q = 1; } int b = q;
		ErrName G.a: class G { int a = q; int b(int b) { return true; } }
		ErrType G.a: class G { int a = true; } class L { int a = q; }
		ErrName L.a: class G { int a; } class L { int a = q; }
		ErrType G.m: class G { void m() { return 1; } } class L { int a = q; }
		fine: class G extends A { G(int a) { super(a); } int a = 1; String x = "b"; int b = super.x; }
		ErrName G.b: class G { G(int a) { } int b = a; }`)
}

// TestVars is promise 12.2: variables, from where they are on, until the end of what they stand in.
func TestVars(t *testing.T) {
	check(t, `
		fine: void m() { int a = 1; boolean b = a == 1; String c = "a" + b; A d = new B(); A o = null; B j = null; Exception l = new E(); }
		fine: void m(int a, A b) { int c = a; A d = b; }
		fine: H(int a, A b) { int c = a; A d = b; }
		fine: void m() { int x = 1; x = x + this.x; String h = ""; h = "a"; }
		fine: void m() { int m = 1; int f = f(m); }
		ErrClass H.m: void m() { None a = null; }
		ErrClass H.m: void m(int a) { None a = q; }
		ErrClass H.m: void m() { None a = q; }
		ErrTwice H.m: void m(int a) { int a = 1; }
		ErrTwice H.m: void m(int a) { boolean a = q; }
		ErrTwice H.m: void m(int a) { int a = true; }
		ErrTwice H.m: void m() { int a = 1; A a = null; }
		ErrTwice H.new: H(int a) { int a = 1; }
		ErrName H.m: void m() { int a = q; }
		ErrName H.m: void m() { int a = a; }
		ErrName H.m: void m() { int b = a; int a = 1; }
		ErrType H.m: void m() { int a = true; }
		ErrType H.m: void m() { int a = null; }
		ErrType H.m: void m() { int a = v(); }
		ErrType H.m: void m() { A a = v(); }
		ErrType H.m: void m() { B a = new A(); }
		ErrType H.m: void m() { String a = null; }
		fine: void m() { if (true) { int a = 1; } else { String a = ""; } while (true) { A a = null; } int a = 1; }
		fine: void m() { try { int a = 1; } catch (Exception b) { int a = 1; } finally { int a = 1; int b = a; } int a = 1; int b = a; }
		fine: void m(int a) { if (true) { while (a == 1) { try { int b = a; } catch (E e) { a = 1; } finally { a = 2; } } } else { a = 3; } }
		ErrTwice H.m: void m(int a) { if (true) { int a = 1; } }
		ErrTwice H.m: void m(int a) { if (true) { } else { int a = 1; } }
		ErrTwice H.m: void m(int a) { while (true) { int a = 1; } }
		ErrTwice H.m: void m(int a) { try { int a = 1; } catch (E b) { } }
		ErrTwice H.m: void m(int a) { try { } catch (E b) { int a = 1; } }
		ErrTwice H.m: void m(int a) { try { } catch (E b) { } finally { int a = 1; } }
		ErrTwice H.m: void m() { int a = 1; if (true) { if (true) { int a = 1; } } }
		ErrTwice H.m: void m() { if (true) { int a = 1; if (true) { int a = 1; } } }
		ErrName H.m: void m() { if (true) { int a = 1; } a = 2; }
		ErrName H.m: void m() { if (true) { int a = 1; } else { a = 2; } }
		ErrName H.m: void m() { while (true) { int a = 1; } print a; }
		ErrName H.m: void m() { while (a == 1) { int a = 1; } }
		ErrName H.m: void m() { try { int a = 1; } catch (E b) { print a; } }
		ErrName H.m: void m() { try { } catch (E b) { int a = 1; } finally { print a; } }
		ErrName H.m: void m() { try { int a = 1; } catch (E b) { } finally { print a; } }
		ErrName H.m: void m() { try { } catch (E b) { } finally { int a = 1; } print a; }
		ErrName H.m: void l(int a) { int b = 1; } void m() { b = 1; }
		ErrName H.m: void l(int a) { int b = 1; } void m() { a = 1; }
		fine: void l(int a) { int b = 1; } void m(int b) { int a = 1; }
		ErrStatic H.m: void l() { } static void m() { int a = h; }
		fine: static void m() { int h = 1; int x = h; h = x; }`)
}

// TestAssignments is promise 12.2: what is on the right must be able to stand for what is on the left.
func TestAssignments(t *testing.T) {
	check(t, `
		fine: void m(int a, A b, B c) { a = 1; b = c; b = null; c = null; h = a; x = h; this.h = 1; super.x = 1; H::i = 1; A::s = c; b.n.n = this; c.x = ""; s = c; z = true; t = t + 1; }
		ErrType H.m: void m(int a) { a = true; }
		ErrType H.m: void m(int a) { a = null; }
		ErrType H.m: void m(int a) { a = v(); }
		ErrType H.m: void m(A a, B b) { b = a; }
		ErrType H.m: void m(A a, C b) { a = b; }
		ErrType H.m: void m() { x = ""; }
		ErrType H.m: void m(B a) { a.x = 1; }
		ErrType H.m: void m() { t = null; }
		ErrType H.m: void m() { super.x = true; }
		ErrType H.m: void m() { A::s = new A(); }
		ErrType H.m: void m(int a) { a.x = 1; }
		ErrName H.m: void m() { q = true; }
		ErrName H.m: void m() { h = q; }
		ErrName H.m: void m() { q = None::x; }
		ErrClass H.m: void m() { None::x = q; }
		ErrClass H.m: void m() { h = None::x; }
		ErrStatic H.m: static void m() { h = q; }
		ErrStatic H.m: static void m() { i = h; }
		ErrStatic H.m: void m() { H::h = 1; }
		ErrStatic H.m: void m() { this.i = 1; }
		fine: static void m() { i = 1; s = null; H::i = i; }
		fine: H() { h = 1; this.x = h; i = 2; }`)
}

// TestExpressions is promise 12.2: an expression that is a statement has its errors, and may be void.
func TestExpressions(t *testing.T) {
	check(t, `
		fine: void m() { g(); v(); f(1); k(); new A(); new A(1); super.v(); A::g(); this.v(); n.f(1); m(); }
		ErrMethod H.m: void m() { q(); }
		ErrMethod H.m: void m() { f(true); }
		ErrMethod H.m: void m() { new A(true); }
		ErrVague H.m: void m() { new A(null, null); }
		ErrType H.m: void m() { f(v()); }
		ErrType H.m: void m() { new A(v()); }
		ErrName H.m: void m() { f(q); }
		ErrClass H.m: void m() { new None(); }
		ErrStatic H.m: static void m() { v(); }
		ErrStatic H.m: static void m() { super.v(); }
		fine: static void m() { g(); k(); new A(); k().v(); m(); }`)
}

// TestConditions is promise 12.2: what if, while and assert ask is boolean; then comes what stands within.
func TestConditions(t *testing.T) {
	for _, s := range []string{"if (ASK) { }", "if (ASK) { } else { }", "while (ASK) { }", "assert 1 ASK;", "if (true) { if (ASK) { } }", "if (true) { } else { if (ASK) { } }", "while (true) { assert 9 ASK; }"} {
		for ask, want := range map[string]string{"true": "fine", "z": "fine", "1 < 2": "fine", "w(null)": "fine", "n is B": "fine", "1": "ErrType H.m", "null": "ErrType H.m", "\"true\"": "ErrType H.m", "n": "ErrType H.m", "v()": "ErrType H.m", "q": "ErrName H.m", "f(1)": "ErrType H.m", "f()": "ErrMethod H.m"} {
			check(t, want+": void m() { "+strings.ReplaceAll(s, "ASK", ask)+" }")
		}
	}
	check(t, `
		ErrType H.m: void m() { if (1) { q = 1; } }
		ErrType H.m: void m() { if (1) { } else { q = 1; } }
		ErrType H.m: void m() { while (1) { q = 1; } }
		ErrName H.m: void m() { if (true) { q = 1; } else { h = true; } }
		ErrType H.m: void m() { if (true) { h = true; } else { q = 1; } }
		ErrName H.m: void m() { if (true) { } else { q = 1; } h = true; }
		ErrName H.m: void m() { while (true) { q = 1; } h = true; }
		ErrType H.m: void m() { assert 1 1; q = 1; }`)
}

// TestReturns is promise 12.2: a return gives what the method promises, and nothing where it promises nothing.
func TestReturns(t *testing.T) {
	check(t, `
		fine: int m() { return 1; }
		fine: A m() { return null; }
		fine: A m() { return new B(); }
		fine: String m() { return ""; }
		fine: boolean m() { if (true) { return false; } return true; }
		fine: H m() { return this; }
		fine: void m() { return; }
		fine: H() { return; }
		fine: H(int a) { if (a == 1) { return; } h = 1; }
		ErrType H.m: int m() { return true; }
		ErrType H.m: int m() { return null; }
		ErrType H.m: int m() { return v(); }
		ErrType H.m: B m() { return new A(); }
		ErrType H.m: String m() { return null; }
		ErrType H.m: int m() { return; }
		ErrType H.m: A m() { return; }
		ErrType H.m: String m() { if (true) { return; } return ""; }
		ErrType H.m: void m() { return 1; }
		ErrType H.m: void m() { return null; }
		ErrType H.m: void m() { return v(); }
		ErrType H.m: void m() { return this; }
		ErrType H.new: H() { return 1; }
		ErrType H.new: H() { return null; }
		ErrType H.new: H() { return this; }
		ErrType H.new: H() { return v(); }
		ErrName H.m: int m() { return q; }
		ErrName H.m: void m() { return q; }
		ErrName H.new: H() { return q; }
		ErrStatic H.m: static int m() { return h; }
		ErrType H.m: int m() { while (true) { return true; } }
		ErrType H.m: int m() { try { return true; } catch (E a) { } return 1; }`)
}

// TestPrints is promise 12.2: what is printed is int, boolean or String.
func TestPrints(t *testing.T) {
	check(t, `
		fine: void m() { print 1; print true; print ""; print t; print f(1); print "a" + 1; print n == null; print this.x; }
		ErrType H.m: void m() { print null; }
		ErrType H.m: void m() { print this; }
		ErrType H.m: void m() { print n; }
		ErrType H.m: void m() { print v(); }
		ErrType H.m: void m() { print new E(); }
		ErrName H.m: void m() { print q; }
		ErrType H.m: static void m() { print k(); }
		ErrStatic H.m: static void m() { print this; }`)
}

// TestThrows is promise 12.2: what is thrown is an Exception, or null.
func TestThrows(t *testing.T) {
	check(t, `
		fine: void m(Exception a, ZeroFault b, F c) { if (true) { throw a; } if (true) { throw b; } if (true) { throw c; } throw e; }
		fine: void m() { if (true) { throw new E(); } if (true) { throw new E(1); } if (true) { throw new Exception(); } if (true) { throw new CastFault(); } throw null; }
		ErrType H.m: void m() { throw this; }
		ErrType H.m: void m() { throw n; }
		ErrType H.m: void m() { throw 1; }
		ErrType H.m: void m() { throw "a"; }
		ErrType H.m: void m() { throw v(); }
		ErrName H.m: void m() { throw q; }
		ErrMethod H.m: void m() { throw new E(true); }
		ErrStatic H.m: static void m() { throw e; }
		fine: int m() { throw null; }`)
}

// TestTries is promise 12.2: what is caught is an Exception of a name that is free; it is there in B alone.
func TestTries(t *testing.T) {
	check(t, `
		fine: void m() { try { } catch (Exception a) { } }
		fine: void m() { try { h = 1; } catch (E a) { h = a.n; throw a; } finally { h = 2; } }
		fine: void m() { try { } catch (RangeFault a) { } try { } catch (F a) { int b = 1; } int a = 1; }
		fine: void m() { try { int a = 1; } catch (E a) { a = null; } finally { boolean a = true; } }
		fine: void m() { try { } catch (E h) { h.n = 1; } h = 1; }
		ErrClass H.m: void m() { try { } catch (None a) { } }
		ErrType H.m: void m() { try { } catch (A a) { } }
		ErrType H.m: void m() { try { } catch (H a) { } }
		ErrTwice H.m: void m(int a) { try { } catch (E a) { } }
		ErrTwice H.m: void m() { E a = null; try { } catch (E a) { } }
		ErrTwice H.m: void m() { try { } catch (E a) { try { } catch (F a) { } } }
		ErrTwice H.m: void m() { try { } catch (E a) { int a = 1; } }
		fine: void m() { try { try { } catch (E a) { } } catch (F a) { } finally { try { } catch (E a) { } } }
		ErrName H.m: void m() { try { print a; } catch (E a) { } }
		ErrName H.m: void m() { try { } catch (E a) { } finally { throw a; } }
		ErrName H.m: void m() { try { } catch (E a) { } throw a; }
		ErrType H.m: void m() { try { } catch (E a) { h = a; } }
		ErrName H.m: void m() { try { } catch (E a) { h = a.m; } }
		ErrName H.m: void m() { try { q = 1; } catch (None a) { } }
		ErrType H.m: void m() { try { h = true; } catch (A a) { q = 1; } }
		ErrClass H.m: void m(int a) { try { } catch (None a) { q = 1; } }
		ErrType H.m: void m(int a) { try { } catch (A a) { q = 1; } }
		ErrTwice H.m: void m(int a) { try { } catch (E a) { q = 1; } finally { h = true; } }
		ErrName H.m: void m() { try { } catch (E a) { q = 1; } finally { h = true; } }
		ErrType H.m: void m() { try { } catch (E a) { h = true; } finally { q = 1; } }
		ErrType H.m: void m() { try { } catch (E a) { } finally { h = true; } q = 1; }`)
}

// TestSupers is promise 12.2: super( .. ), and where it is left out.
func TestSupers(t *testing.T) {
	check(t, `
		fine: H() { super(); }
		fine: H() { super(1); }
		fine: H(B a) { super(a, new A()); }
		fine: H(int a) { super(a + i); int b = a; }
		fine: H() { super(k().f(1)); h = 1; }
		fine: H() { h = 1; }
		fine: H() { }
		ErrMethod H.new: H() { super(true); }
		ErrMethod H.new: H() { super(null); }
		ErrMethod H.new: H() { super(1, 2); }
		ErrVague H.new: H() { super(null, null); }
		ErrVague H.new: H(B a) { super(a, a); }
		ErrName H.new: H() { super(q); }
		ErrName H.new: H() { super(true, q); }
		ErrType H.new: H() { super(1 + true, q); }
		ErrType H.new: H() { super(g()); }
		ErrType H.new: H() { super(null, g(), 1); }
		ErrName H.new: H() { super(g(), q); }
		ErrStatic H.new: H() { super(h); }
		ErrStatic H.new: H() { super(x); }
		ErrStatic H.new: H() { super(this.h); }
		ErrStatic H.new: H() { super(super.x); }
		ErrStatic H.new: H() { super(f(1)); }
		ErrStatic H.new: H(A a) { super(this, a); }
		fine: H(int a) { super(a); a = h; h = this.x; v(); }
		ErrName H.new: H() { super(a); int a = 1; }
		ErrTwice H.new: H(int a) { super(a); int a = 1; }
		ErrClass G.new: class G { G() { super(); } }
		ErrClass G.new: class G { G() { super(q); } }
		ErrClass G.new: class G { G() { super(g()); } static void g() { } }
		fine: class G extends Exception { }
		fine: class G extends Exception { G() { } }
		fine: class G extends Exception { G() { super(); } }
		ErrMethod G.new: class G extends Exception { G() { super(1); } }
		fine: class G extends E { G() { super(1); } }
		fine: class G extends F { G() { super(); } }
		fine: class G extends F { G(int a) { a = 1; } }
		ErrMethod G.new: class G extends F { G(int a) { super(a); } }
		ErrMethod G.new: class G extends C { }
		ErrMethod G.new: class G extends C { G() { } }
		ErrMethod G.new: class G extends C { G() { super(); } }
		fine: class G extends C { G() { super(1); } }
		ErrMethod G.new: class G extends C { G(int a) { q = 1; } }
		ErrMethod G.new: class G extends C { G() { super(1); } G(int a) { } }
		ErrName G.new: class G extends C { G() { super(1); q = 1; } G(int a) { } }
		ErrName G.f: class G extends C { void f() { q = 1; } }
		ErrReturn G.f: class G extends C { int f() { } }
		ErrName G.a: class G extends C { int a = q; }
		ErrMethod G.new: class G extends C { void f() { } } class L { int a = q; }
		ErrName G.f: class G extends C { void f() { q = 1; } G() { } }
		ErrMethod G.new: class G extends C { G() { } void f() { q = 1; } }
		fine: class G extends C { G() { super(1); } } class L extends G { }
		ErrMethod L.new: class G extends C { G(int a) { super(1); } } class L extends G { }
		fine: class G { } class L extends G { L() { super(); } }
		ErrMethod L.new: class G { } class L extends G { L() { super(1); } }
		fine: class G { } class L extends G { } class M extends L { M() { } }`)
}

// TestEnds is promise 12.1: a value that is promised is given; this is asked behind the Body.
func TestEnds(t *testing.T) {
	check(t, `
		ErrReturn H.m: int m() { }
		ErrReturn H.m: A m() { h = 1; }
		ErrReturn H.m: static String m() { if (true) { return ""; } }
		fine: int m() { while (true) { } }
		fine: int m() { if (z) { return 1; } else { throw null; } }
		fine: void m() { }
		fine: static void m() { }
		fine: H() { }
		ErrName H.m: int m() { q = 1; }
		ErrType H.m: int m() { if (true) { return true; } }
		ErrReturn H.m: int m() { } int o() { return q; }
		ErrName H.o: int m() { return 1; } int o() { return q; }
		ErrReturn H.m: int m() { return 1; } int m(int a) { }
		ErrName H.m: int m(int a) { return q; } void m() { } H() { super(q); }
		ErrName H.new: H() { super(q); } int m(int a) { return q; }
		ErrReturn G.m: class G { int m() { } } class L { int m() { return q; } }
		ErrReturn L.m: class G { int m() { return 1; } } class L { int m() { } }`)
}

// bonds is what all is bound to, from the outermost part of each expression on, in the turn of the text; of each super( .. ) the constructor's behind its args.
func bonds(p api.Program) string {
	s := ""
	var ofExpr func(e api.Expr)
	ofExpr = func(e api.Expr) {
		if e.Own != "" || e.Nth != 0 {
			s += " " + e.Own + "." + strconv.Itoa(e.Nth)
		}
		for _, x := range e.L {
			ofExpr(x)
		}
	}
	var ofAll func(l []api.Stmt)
	ofAll = func(l []api.Stmt) {
		for _, x := range l {
			for _, e := range x.E {
				ofExpr(e)
			}
			if x.Kind == api.SSuper || x.Nth != 0 {
				s += " super" + strconv.Itoa(x.Nth)
			}
			for _, a := range [][]api.Stmt{x.A, x.B, x.C} {
				ofAll(a)
			}
		}
	}
	for _, c := range p.Classes {
		for _, f := range c.Fields {
			for _, e := range f.Init {
				ofExpr(e)
			}
		}
		for _, m := range c.Methods {
			ofAll(m.Body)
		}
	}
	return strings.TrimSpace(s)
}

// spoilt is p with each expression and statement bound to something that is not there.
func spoilt(p api.Program) api.Program {
	p = tree.Bare(p)
	var ofExprs func(l []api.Expr)
	ofExprs = func(l []api.Expr) {
		for i := range l {
			l[i].Own, l[i].Nth = "Q", 77
			ofExprs(l[i].L)
		}
	}
	var ofAll func(l []api.Stmt)
	ofAll = func(l []api.Stmt) {
		for i := range l {
			l[i].Nth = -5
			ofExprs(l[i].E)
			ofAll(l[i].A)
			ofAll(l[i].B)
			ofAll(l[i].C)
		}
	}
	for _, c := range p.Classes {
		for _, f := range c.Fields {
			ofExprs(f.Init)
		}
		for _, m := range c.Methods {
			ofAll(m.Body)
		}
	}
	return p
}

// TestBonds is promise 12.3: all expressions are bound, in Inits and wherever they stand in Bodies, and super( .. ) to its constructor; what they were bound to is gone.
func TestBonds(t *testing.T) {
	for text, want := range map[string]string{
		"class A { int x = 1; int y = x; static int z = A::z; }":                                                                           "A.0 A.2",
		"class A { int x; int y = x + this.x; void f(int x) { x = 1; this.x = x; } }":                                                      "A.0 A.0 A.0",
		"class A { int y; int x; void f() { if (x == 1) { x = 1; } else { while (x == 2) { print x; } } } }":                               "A.1 A.1 A.1 A.1",
		"class A { int y; int x; int f() { try { x = 1; } catch (Exception e) { assert 1 x == 1; } finally { return x; } } }":              "A.1 A.1 A.1",
		"class A { int x; void f() { int x = 1; print x; } void g() { print x; } }":                                                        "A.0",
		"class A { int x; void f() { if (true) { int x = 1; print x; } print x; } }":                                                       "A.0",
		"class A { static void f() { } static void g() { f(); A::g(); new A(); throw new Exception(); } }":                                 "A.0 A.1 A.-1 Exception.-1",
		"class A { A() { } A(int a) { } } class B extends A { B() { super(1); } B(int a) { super(); } B(A b) { } }":                        "super1 super0",
		"class A { } class B extends A { B() { super(); } } class C extends Exception { C() { super(); } }":                                "super-1 super-1",
		"class A { static int x; A(int a) { } A(A b) { } } class B extends A { B(int a) { super(new A(x + a)); print x; } }":               "A.0 A.0 super1 A.0",
		"class A { int f() { return 1; } } class B extends A { int f() { return super.f() + f() + this.f() + (this as A).f(); } }":         "A.0 B.0 B.0 A.0",
		"class A { int f() { return 1; } int f(A a) { return 2; } } class B extends A { int g(B b) { return f(b) + b.f() * b.g(null); } }": "A.1 A.0 B.0",
		"class A { int x; } class B extends A { int x; int f(A a, B b) { A c = a; return a.x + b.x + super.x + (b as A).x; } }":            "A.0 B.0 A.0 A.0",
		"class A { void f(Exception x) { try { f(x); } catch (Exception y) { throw y; } finally { f(null); } } }":                          "A.0 A.0",
		"class A { static String s; static String f() { while (# s < 3) { s = (s @ 1) + s; } return s; } }":                                "A.0 A.0 A.0 A.0 A.0",
	} {
		p := made(text)
		b, code, where := bind.Program(p)
		if got := bonds(b); code != 0 || got != want || !tree.Same(b, p) {
			t.Fatalf("%s is bound to %s, not %s: %s", text, got, want, told(code, where))
		}
		for _, q := range []api.Program{spoilt(p), b} {
			if again, code, where := bind.Program(q); code != 0 || where != "" || !reflect.DeepEqual(again, b) {
				t.Fatalf("%s, once bound, is bound to %s", text, bonds(again))
			}
		}
	}
}

// TestTests is promise 12.3: static void methods without parameters, by classes; nothing of what Check refuses.
func TestTests(t *testing.T) {
	for text, want := range map[string][]api.Test{
		"":                                nil,
		"class A { }":                     nil,
		"class A { static void t() { } }": {{Class: "A", Name: "t"}},
		"class A { void t() { } static int u() { return 1; } static void v(int a) { } A() { } static A w() { return null; } int x() { return 1; } }": nil,
		"class A { static void u() { } void w() { } static void t() { } static void t(int a) { } }":                                                  {{Class: "A", Name: "u"}, {Class: "A", Name: "t"}},
		"class B extends A { static void t() { } static void a() { } } class A { static void t() { } A() { } static void u() { } }":                  {{Class: "B", Name: "t"}, {Class: "B", Name: "a"}, {Class: "A", Name: "t"}, {Class: "A", Name: "u"}},
		"class B extends A { } class A { static void t() { } }":                                                                                      {{Class: "A", Name: "t"}},
		"class A { static void t() { } int f() { } }":                                                                                                nil,
		"class A { static void t() { q = 1; } }":                                                                                                     nil,
		"class A { static void t() { } static void t() { } }":                                                                                        nil,
		"class A { static void t() { } } class B extends None { }":                                                                                   nil,
	} {
		if got := bind.Tests(made(text)); !slices.Equal(got, want) {
			t.Fatal(text, got)
		}
	}
	if got := bind.Tests(api.Program{Classes: []api.Class{{Name: "a", Methods: []api.Method{{Static: true, Type: "void", Name: "t"}}}}}); len(got) != 0 {
		t.Fatal(got)
	}
}
