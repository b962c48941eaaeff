package typing_test

import (
	"reflect"
	"strconv"
	"strings"
	"testing"

	"changeling/api"
	"changeling/parse"
	"changeling/tree"
	"changeling/typing"
)

// made is the program of a text.
func made(s string) api.Program {
	p, code, at := parse.Program(s)
	if code != 0 {
		panic("no program: " + s + " " + strconv.Itoa(code) + " " + strconv.Itoa(at))
	}
	return p
}

// read is the expression of a text.
func read(s string) api.Expr {
	e, code, at := parse.Expr(s)
	if code != 0 {
		panic("no expression: " + s + " " + strconv.Itoa(code) + " " + strconv.Itoa(at))
	}
	return e
}

// scope is that of a class, with variables told as "int a, B b"; it is a static one if "static" stands ahead of the class.
func scope(class, vars string) typing.Scope {
	name, static := strings.CutPrefix(class, "static ")
	s := typing.Scope{Class: name, Static: static}
	for v := range strings.SplitSeq(vars, ", ") {
		if t, name, is := strings.Cut(v, " "); is {
			s.Vars = append(s.Vars, api.Param{Type: t, Name: name})
		}
	}
	return s
}

// told is how an answer of Bind is told: its type, and, from the outermost part on and from left to right, where each part that is bound is bound to; or the code of its error.
func told(x api.Expr, kind string, code int) string {
	if code != 0 {
		return "error " + strconv.Itoa(code)
	}
	return kind + bonds(x)
}

func bonds(x api.Expr) string {
	s := ""
	if x.Own != "" || x.Nth != 0 {
		s = " " + x.Own + "." + strconv.Itoa(x.Nth)
	}
	for _, y := range x.L {
		s += bonds(y)
	}
	return s
}

// ask is told of e, which Bind and Of must tell the same of; all else of e must be as it was.
func ask(t *testing.T, p api.Program, s typing.Scope, e api.Expr) string {
	t.Helper()
	x, kind, code := typing.Bind(p, s, e)
	if k, c := typing.Of(p, s, e); k != kind || c != code {
		t.Fatalf("Of %v is %q, %d, but Bind is %q, %d", e, k, c, kind, code)
	}
	if code != 0 && (kind != "" || !reflect.DeepEqual(x, api.Expr{})) {
		t.Fatalf("beside the error %d of %v are %v and %q", code, e, x, kind)
	}
	if code == 0 && !tree.SameExpr(x, e) {
		t.Fatalf("%v is bound as %v", e, x)
	}
	return told(x, kind, code)
}

// failed is how ask tells the error of that name; what is no error's name is told as it stands.
func failed(name string) string {
	code, is := map[string]int{"ErrClass": api.ErrClass, "ErrName": api.ErrName, "ErrMethod": api.ErrMethod, "ErrVague": api.ErrVague, "ErrStatic": api.ErrStatic, "ErrType": api.ErrType, "ErrCast": api.ErrCast}[name]
	if !is {
		return name
	}
	return told(api.Expr{}, "", code)
}

// check holds expressions against what is told of them: lines of "expression: type bonds" or "expression: ErrName".
func check(t *testing.T, p api.Program, s typing.Scope, lines string) {
	t.Helper()
	for line := range strings.SplitSeq(strings.TrimSpace(lines), "\n") {
		i := strings.LastIndex(line, ": ")
		if i < 0 {
			t.Fatal("no line:", line)
		}
		text, want := strings.TrimSpace(line[:i]), failed(line[i+2:])
		if got := ask(t, p, s, read(text)); got != want {
			t.Fatalf("%s in %v is %s, not %s", text, s, got, want)
		}
	}
}

// house is the program that most tests ask about.
func house() api.Program {
	return made(`
class A {
	int x; static B s; A n; String t;
	A() { }
	A(int a) { }
	int f(int a) { return 1; }
	static void g() { }
	void h(A a) { }
	String f(A a) { return ""; }
	static int k(B b, A a) { return 1; }
	A m() { return this; }
}
class B extends A {
	String x; boolean y; static int z;
	int f(int b) { return 2; }
	B(A a, B b) { }
	B(B a, A b) { }
	void v(A a, B b) { }
	void v(B a, A b) { }
	static void w() { }
	B(int a) { }
}
class C { C n; }
class E extends NullFault { int x; static int s; E up() { return this; } static E none() { return null; } void v(A a) { } void v(C c) { } }
class F extends B { }`)
}

// all are variables of each type that there is, and of what is none.
const all = "int i, boolean z, String q, null o, A a, B b, C c, E e, F d, Exception j, NullFault l, ZeroFault r, void u, None w"

// TestVar is promise 10.1: the last of a name counts; one whose Type is empty counts for none.
func TestVar(t *testing.T) {
	s := scope("A", "int a, B b, String a, void v, None w, null n")
	s.Vars = append(s.Vars, api.Param{Type: "C", Name: ""}, api.Param{Type: "int", Name: "e"}, api.Param{Name: "e"}, api.Param{Name: "f"}, api.Param{Type: "int", Name: "f"})
	for name, want := range map[string]string{"a": "String", "b": "B", "v": "void", "w": "None", "n": "null", "": "C", "e": "", "f": "int", "q": "", "A": "", "a ": "", "\xff": ""} {
		if got := typing.Var(s, name); got != want {
			t.Fatalf("Var of %q is %q, not %q", name, got, want)
		}
	}
	for _, l := range [][]api.Param{nil, {}} {
		for _, name := range []string{"a", "", "x"} {
			if got := typing.Var(typing.Scope{Class: "A", Vars: l}, name); got != "" {
				t.Fatalf("Var of %q is %q", name, got)
			}
		}
	}
	// Neither the class nor whether it is static is asked, nor whether there is any such class.
	for _, c := range []string{"A", "static A", "None", "static None"} {
		if got := typing.Var(scope(c, "int a, A a"), "a"); got != "A" {
			t.Fatal(c, got)
		}
	}
}

// TestPlain is promise 10.1: what has its type of itself, wherever it stands.
func TestPlain(t *testing.T) {
	for _, class := range []string{"A", "static A", "F", "static C"} {
		check(t, house(), scope(class, ""), `
			0: int
			2147483647: int
			true: boolean
			false: boolean
			"": String
			"a b": String
			null: null`)
	}
}

// TestThis is promise 10.1: the class, but in a static one.
func TestThis(t *testing.T) {
	for _, class := range []string{"A", "B", "C", "E", "F"} {
		check(t, house(), scope(class, all), "this: "+class)
		check(t, house(), scope("static "+class, all), "this: ErrStatic")
	}
}

// TestNames is promise 10.1: a variable, else a field that the class finds.
func TestNames(t *testing.T) {
	p := house()
	check(t, p, scope("A", ""), "x: int A.0\ns: B A.1\nn: A A.2\nt: String A.3\ny: ErrName\nz: ErrName\nf: ErrName\na: ErrName")
	check(t, p, scope("B", ""), "x: String B.0\ns: B A.1\nn: A A.2\ny: boolean B.1\nz: int B.2\nq: ErrName")
	check(t, p, scope("F", ""), "x: String B.0\ns: B A.1\nn: A A.2\ny: boolean B.1\nz: int B.2")
	check(t, p, scope("C", ""), "n: C C.0\nx: ErrName")
	check(t, p, scope("static A", ""), "x: ErrStatic\ns: B A.1\nn: ErrStatic\ny: ErrName")
	check(t, p, scope("static B", ""), "x: ErrStatic\ns: B A.1\nz: int B.2\ny: ErrStatic\nn: ErrStatic\nq: ErrName")
	check(t, p, scope("static F", ""), "x: ErrStatic\ns: B A.1\nz: int B.2")
	for _, class := range []string{"B", "static B"} {
		check(t, p, scope(class, "A x, int x, C s, boolean i"), "x: int\ns: C\ni: boolean\nz: int B.2")
		check(t, p, scope(class, all), "i: int\nz: boolean\nq: String\no: null\na: A\nb: B\nc: C\ne: E\nj: Exception\nl: NullFault\nu: void\nw: None")
		// One whose Type is empty counts for none.
		check(t, p, scope(class, " z, int s,  q"), "z: int B.2\ns: int\nq: ErrName")
		check(t, p, scope(class, "A z,  z"), "z: int B.2")
	}
	check(t, p, scope("static B", " x"), "x: ErrStatic")
}

// TestFields is promise 10.1: of a value's class, those that are not Static.
func TestFields(t *testing.T) {
	for _, class := range []string{"A", "static A", "C", "static F"} {
		check(t, house(), scope(class, all), `
			a.x: int A.0
			b.x: String B.0
			d.x: String B.0
			b.n.x: int A.0 A.2
			b.n.n.t: String A.3 A.2 A.2
			d.y: boolean B.1
			c.n.n.n: C C.0 C.0 C.0
			(a as B).x: String B.0
			(b as A).x: int A.0
			new B(1).x: String B.0 B.6
			A::s.x: String B.0 A.1
			a.m().n: A A.2 A.7
			e.x: int E.0
			e.up().x: int E.0 E.0
			a.y: ErrName
			c.x: ErrName
			j.x: ErrName
			l.x: ErrName
			r.q: ErrName
			a.s: ErrStatic
			b.s: ErrStatic
			b.z: ErrStatic
			e.s: ErrStatic
			i.x: ErrType
			z.x: ErrType
			q.x: ErrType
			o.x: ErrType
			null.x: ErrType
			u.x: ErrType
			w.x: ErrType
			A::g().x: ErrType
			1.x: ErrType
			i.q: ErrType
			a.x.x: ErrType`)
	}
	check(t, house(), scope("B", ""), "this.x: String B.0\nthis.n: A A.2\nthis.z: ErrStatic\nn.n: A A.2 A.2\ns.y: boolean B.1 A.1\n(this as A).x: int A.0")
}

// TestSuperNames is promise 10.1: fields from the Super on, which there is, where there is a this.
func TestSuperNames(t *testing.T) {
	p := house()
	check(t, p, scope("B", all), "super.x: int A.0\nsuper.n: A A.2\nsuper.n.x: int A.0 A.2\nsuper.y: ErrName\nsuper.q: ErrName\nsuper.s: ErrStatic\nsuper.z: ErrName")
	check(t, p, scope("F", all), "super.x: String B.0\nsuper.y: boolean B.1\nsuper.z: ErrStatic\nsuper.s: ErrStatic\nsuper.n: A A.2\nsuper.q: ErrName")
	check(t, p, scope("E", all), "super.x: ErrName\nsuper.s: ErrName")
	for _, class := range []string{"A", "C"} {
		check(t, p, scope(class, all), "super.x: ErrClass\nsuper.n: ErrClass\nsuper.q: ErrClass\nsuper.s: ErrClass")
	}
	for _, class := range []string{"A", "B", "C", "E", "F"} {
		check(t, p, scope("static "+class, all), "super.x: ErrStatic\nsuper.s: ErrStatic\nsuper.q: ErrStatic")
	}
}

// TestStatics is promise 10.1: of a class that is written, those that are Static.
func TestStatics(t *testing.T) {
	for _, class := range []string{"A", "static A", "C", "static F"} {
		check(t, house(), scope(class, all), `
			A::s: B A.1
			B::s: B A.1
			F::s: B A.1
			B::z: int B.2
			F::z: int B.2
			E::s: int E.1
			A::s.y: boolean B.1 A.1
			A::x: ErrStatic
			B::x: ErrStatic
			F::y: ErrStatic
			C::n: ErrStatic
			A::z: ErrName
			C::s: ErrName
			A::f: ErrName
			Exception::s: ErrName
			NullFault::s: ErrName
			None::s: ErrClass
			None::q: ErrClass
			D::x: ErrClass`)
	}
}

// TestCalls is promise 10.1: of a value's class, methods that are not Static.
func TestCalls(t *testing.T) {
	for _, class := range []string{"A", "static A", "C", "static E"} {
		check(t, house(), scope(class, all), `
			a.f(1): int A.2
			b.f(i): int B.0
			d.f(1): int B.0
			a.f(a): String A.5
			b.f(d): String A.5
			a.f(null): String A.5
			a.h(b): void A.4
			b.m().f(1): int A.2 A.7
			b.m().m().x: int A.0 A.7 A.7
			b.v(a, b): void B.3
			b.v(b, a): void B.4
			b.f(b.n): String A.5 A.2
			e.up().up(): E E.0 E.0
			e.up().none(): ErrStatic
			b.v(b, b): ErrVague
			b.v(null, null): ErrVague
			b.v(a, a): ErrMethod
			a.v(a, b): ErrMethod
			a.f(): ErrMethod
			a.f(1, 1): ErrMethod
			a.f(q): ErrMethod
			a.f(w): ErrMethod
			a.q(): ErrMethod
			a.x(): ErrMethod
			j.f(1): ErrMethod
			l.up(): ErrMethod
			a.g(): ErrStatic
			b.w(): ErrStatic
			d.k(b, a): ErrStatic
			i.f(1): ErrType
			z.f(1): ErrType
			q.f(1): ErrType
			o.f(1): ErrType
			null.f(1): ErrType
			u.f(1): ErrType
			w.f(1): ErrType
			A::g().m(): ErrType
			i.q(): ErrType`)
	}
	check(t, house(), scope("F", ""), "this.f(1): int B.0\nn.f(1): int A.2 A.2\nthis.g(): ErrStatic\nthis.f(this): String A.5")
}

// TestSelfCalls is promise 10.1: of the class itself; in a static one, those that are Static.
func TestSelfCalls(t *testing.T) {
	p := house()
	check(t, p, scope("A", all), "f(1): int A.2\nf(a): String A.5\nf(null): String A.5\ng(): void A.3\nh(b): void A.4\nk(b, a): int A.6\nk(null, null): int A.6\nm(): A A.7\nm().x: int A.0 A.7\nw(): ErrMethod\nf(): ErrMethod\nf(q): ErrMethod\nk(a, a): ErrMethod\nx(): ErrMethod\nq(1): ErrMethod")
	check(t, p, scope("B", all), "f(1): int B.0\nf(a): String A.5\ng(): void A.3\nw(): void B.5\nv(a, b): void B.3\nv(b, b): ErrVague\nv(1, b): ErrMethod\nf(f(f(1))): int B.0 B.0 B.0")
	check(t, p, scope("F", all), "f(1): int B.0\nh(this): void A.4\nw(): void B.5")
	check(t, p, scope("static A", all), "f(1): ErrStatic\nf(a): ErrStatic\ng(): void A.3\nk(b, a): int A.6\nm(): ErrStatic\nh(b): ErrStatic\nf(q): ErrMethod\nw(): ErrMethod")
	check(t, p, scope("static F", all), "f(1): ErrStatic\ng(): void A.3\nw(): void B.5\nv(a, b): ErrStatic\nv(b, b): ErrVague\nk(b, a): int A.6")
	check(t, p, scope("C", all), "f(1): ErrMethod\nm(): ErrMethod")
	// A variable is none of the methods, and hides none.
	check(t, p, scope("A", "int f, B m"), "f(f): int A.2\nm(): A A.7\nm.f(1): int B.0")
}

// TestSuperCalls is promise 10.1: as of fields, and methods that are not Static.
func TestSuperCalls(t *testing.T) {
	p := house()
	check(t, p, scope("B", all), "super.f(1): int A.2\nsuper.f(a): String A.5\nsuper.m(): A A.7\nsuper.h(this): void A.4\nsuper.f(super.x): int A.2 A.0\nsuper.v(a, b): ErrMethod\nsuper.f(): ErrMethod\nsuper.g(): ErrStatic\nsuper.k(b, a): ErrStatic\nsuper.w(): ErrMethod")
	check(t, p, scope("F", all), "super.f(1): int B.0\nsuper.v(a, b): void B.3\nsuper.v(b, b): ErrVague\nsuper.w(): ErrStatic\nsuper.g(): ErrStatic")
	check(t, p, scope("E", all), "super.up(): ErrMethod\nsuper.none(): ErrMethod")
	for _, class := range []string{"A", "C"} {
		check(t, p, scope(class, all), "super.f(1): ErrClass\nsuper.q(): ErrClass\nsuper.g(): ErrClass\nsuper.f(u): ErrClass")
	}
	for _, class := range []string{"A", "B", "C", "E", "F"} {
		check(t, p, scope("static "+class, all), "super.f(1): ErrStatic\nsuper.q(): ErrStatic\nsuper.g(): ErrStatic\nsuper.f(u): ErrStatic")
	}
}

// TestStaticCalls is promise 10.1: of a class that is written, methods that are Static.
func TestStaticCalls(t *testing.T) {
	for _, class := range []string{"A", "static A", "C", "static F"} {
		check(t, house(), scope(class, all), `
			A::g(): void A.3
			B::g(): void A.3
			F::w(): void B.5
			B::w(): void B.5
			A::k(b, a): int A.6
			F::k(null, b): int A.6
			E::none(): E E.1
			E::none().x: int E.0 E.1
			A::f(1): ErrStatic
			B::f(1): ErrStatic
			B::v(a, b): ErrStatic
			B::v(b, b): ErrVague
			A::w(): ErrMethod
			A::q(): ErrMethod
			A::s(): ErrMethod
			A::k(a, b): ErrMethod
			A::g(1): ErrMethod
			Exception::g(): ErrMethod
			None::g(): ErrClass
			None::g(1, q): ErrClass`)
	}
}
