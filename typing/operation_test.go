package typing_test

import (
	"slices"
	"strings"
	"testing"
)

// TestNew is promise 10.1: a class's own constructors, or the one that is not written, of base classes, too.
func TestNew(t *testing.T) {
	for _, class := range []string{"A", "static A", "C", "static F"} {
		check(t, house(), scope(class, all), `
			new A(): A A.0
			new A(1): A A.1
			new B(1): B B.6
			new B(a, b): B B.1
			new B(b, a): B B.2
			new B(null, a): B B.2
			new C(): C C.-1
			new E(): E E.-1
			new F(): F F.-1
			new Exception(): Exception Exception.-1
			new NullFault(): NullFault NullFault.-1
			new CastFault(): CastFault CastFault.-1
			new ZeroFault(): ZeroFault ZeroFault.-1
			new RangeFault(): RangeFault RangeFault.-1
			new A(new A().x): A A.1 A.0 A.0
			new B(new A(), new F()): B B.1 A.0 F.-1
			new B(b, b): ErrVague
			new B(null, null): ErrVague
			new B(d, b): ErrVague
			new B(): ErrMethod
			new B(a, a): ErrMethod
			new F(1): ErrMethod
			new A(q): ErrMethod
			new C(null): ErrMethod
			new C(w): ErrMethod
			new Exception(1): ErrMethod
			new ZeroFault(j): ErrMethod
			new None(): ErrClass
			new None(1): ErrClass
			new D(a): ErrClass`)
	}
}

// kinTypes are the types of which the chapter's casts are asked, as variables of all have them.
const kinTypes = "null A B C E F Exception NullFault ZeroFault"

// kinship are those of them that a variable may have, "a b" where the one is above or below the other one, or the same.
const kinship = "null A,null B,null C,null E,null F,null Exception,null NullFault,null ZeroFault," +
	"A A,B B,C C,E E,F F,Exception Exception,NullFault NullFault,ZeroFault ZeroFault," +
	"A B,A F,B F,Exception NullFault,Exception ZeroFault,Exception E,NullFault E"

func related(s, t string) bool {
	l := strings.Split(kinship, ",")
	return slices.Contains(l, s+" "+t) || slices.Contains(l, t+" "+s)
}

// variable is one of that type, from all.
func variable(typ string) string {
	for _, v := range scope("A", all).Vars {
		if v.Type == typ {
			return v.Name
		}
	}
	panic("no variable of type " + typ)
}

// TestLooks is promise 10.1: casts and questions, of each type to each class.
func TestLooks(t *testing.T) {
	p := house()
	for _, class := range []string{"A", "static C"} {
		s := scope(class, all)
		for _, from := range strings.Fields(kinTypes) {
			for _, to := range strings.Fields(kinTypes)[1:] {
				asCast, asIs := to, "boolean"
				if !related(from, to) {
					asCast, asIs = "ErrCast", "ErrCast"
				}
				check(t, p, s, variable(from)+" as "+to+": "+asCast+"\n"+variable(from)+" is "+to+": "+asIs)
			}
		}
		for _, from := range []string{"int", "boolean", "String", "void", "None"} {
			for _, to := range strings.Fields(kinTypes)[1:] {
				check(t, p, s, variable(from)+" as "+to+": ErrType\n"+variable(from)+" is "+to+": ErrType")
			}
		}
		for _, from := range strings.Fields(kinTypes + " int boolean String void None") {
			for _, to := range []string{"None", "D", "Int", "Null"} {
				check(t, p, s, variable(from)+" as "+to+": ErrClass\n"+variable(from)+" is "+to+": ErrClass")
			}
		}
		check(t, p, s, "null as A: A\nnull is B: boolean\nb as A as F as B: B\n(a as B) is F: boolean\na is B is B: ErrType\n(a as B) as C: ErrCast\nA::g() as A: ErrType\nA::g() is None: ErrClass\nnew A() as B: B A.0\na.m().n as B: B A.2 A.7")
	}
	check(t, p, scope("B", ""), "this as A: A\nthis as F: F\nthis as C: ErrCast\nthis is B: boolean\nthis as E: ErrCast")
}

// every is each type that a variable of all has.
func every() []string {
	var l []string
	for _, v := range scope("A", all).Vars {
		l = append(l, v.Type)
	}
	return l
}

// ofTwo is what the chapter says of each sign between two plain types; of classes and null it is told by related.
func ofTwo(sign, s, t string) string {
	two := s + " " + t
	switch {
	case strings.Contains("+ - * / %", sign) && two == "int int":
		return "int"
	case sign == "+" && slices.Contains([]string{"String int", "int String", "String boolean", "boolean String", "String String"}, two):
		return "String"
	case sign == "@" && two == "String int":
		return "String"
	case (sign == "<" || sign == "<=") && two == "int int":
		return "boolean"
	case (sign == "==" || sign == "!=") && (slices.Contains([]string{"int int", "boolean boolean", "String String", "null null"}, two) || related(s, t)):
		return "boolean"
	case (sign == "&&" || sign == "||") && two == "boolean boolean":
		return "boolean"
	}
	return "ErrType"
}

// TestSigns is promise 10.1: each sign, with each type on either side.
func TestSigns(t *testing.T) {
	p := house()
	for _, class := range []string{"A", "static C"} {
		s := scope(class, all)
		for _, sign := range []string{"+", "-", "*", "/", "%", "@", "<", "<=", "==", "!=", "&&", "||"} {
			for _, left := range every() {
				for _, right := range every() {
					check(t, p, s, variable(left)+" "+sign+" "+variable(right)+": "+ofTwo(sign, left, right))
				}
			}
		}
		for _, sign := range []string{"-", "!", "#"} {
			for _, typ := range every() {
				want := map[string]string{"- int": "int", "! boolean": "boolean", "# String": "int"}[sign+" "+typ]
				if want == "" {
					want = "ErrType"
				}
				check(t, p, s, sign+variable(typ)+": "+want)
			}
		}
	}
}

// TestSums is promise 10.1, and the chapter's example: what is made is a part again.
func TestSums(t *testing.T) {
	check(t, house(), scope("B", "int i, String q, boolean z"), `
		1 + "a": String
		1 + 2 + "a": String
		"a" + 1 + 2: String
		"a" + (1 + 2): String
		"a" + (1 < 2): String
		z + z: ErrType
		z + (z + q): String
		z + z + q: ErrType
		q + null: ErrType
		q + this: ErrType
		q @ i @ 0: String
		q @ #q: String
		#(q @ i): int
		#q - 1 < i && !z: boolean
		-(-i): int
		!!z: boolean
		-i == #x: boolean B.0
		1 < 2 == z: boolean
		1 < 2 < 3: ErrType
		i == 1 == 2: ErrType
		(i == 1) == (q == q): boolean
		q == q == q: ErrType
		f(i + 1) * 2: int B.0
		n.f(this) + f(1): String A.5 A.2 B.0
		this == n || n != null && n.m() == s: boolean A.2 A.2 A.7 A.2 A.1
		i + super.x: int A.0
		new B(i).y == (n is B): boolean B.1 B.6 A.2`)
}

// TestNoPartIsVoid is promise 10.1: what is void is no part of anything but of a statement.
func TestNoPartIsVoid(t *testing.T) {
	p := house()
	for _, void := range []string{"g()", "A::g()", "h(a)", "a.h(b)", "u"} {
		for _, sign := range []string{"+", "-", "*", "/", "%", "@", "<", "<=", "==", "!=", "&&", "||"} {
			for _, other := range []string{"1", "q", "true", "null", "a", void} {
				check(t, p, scope("B", all), void+" "+sign+" "+other+": ErrType\n"+other+" "+sign+" "+void+": ErrType")
			}
		}
		check(t, p, scope("B", all), strings.ReplaceAll(`
			-V: ErrType
			!V: ErrType
			#V: ErrType
			V.x: ErrType
			V.m(): ErrType
			V as A: ErrType
			V is A: ErrType
			h(V): ErrType
			q(V): ErrType
			v(a, V): ErrType
			v(V, a): ErrType
			f(1, V): ErrType
			a.h(V): ErrType
			a.q(V): ErrType
			a.g(V): ErrType
			super.h(V): ErrType
			super.g(V): ErrType
			A::g(V): ErrType
			A::q(V): ErrType
			A::f(V): ErrType
			new A(V): ErrType
			new C(V): ErrType
			new B(a, b, V): ErrType
			new ZeroFault(V): ErrType`, "V", void))
	}
}

// TestOddPrograms is promise 10.1 in programs that no text tells, and that kin, field and method let pass: classes with the names of nothing, and of another type.
func TestOddPrograms(t *testing.T) {
	p := made("class A { int x; static int s; void f(int a) { } } class B { int y; A up() { return null; } static A z; }")
	p.Classes[0].Name = ""
	p.Classes[1].Methods[0].Type, p.Classes[1].Fields[1].Type = "", ""
	// The class with the empty name is above all that have an empty Super, but of whom that is empty has none.
	check(t, p, scope("B", ""), "x: int\nthis.y: int B.0\nsuper.x: ErrClass\nsuper.f(1): ErrClass\nthis == up(): boolean B.0\nup().x: int B.0\nup().y: ErrName\nup() as B: B B.0\nz:  B.1\nf(1): void\nthis.s: ErrStatic")
	check(t, p, scope("", ""), "x: int\nthis: \ny: ErrName\nsuper.x: ErrClass\nthis.x: int\nf(x): void\nthis as B: B")
	check(t, p, scope("static ", ""), "x: ErrStatic\ns: int .1\nthis: ErrStatic\nsuper.x: ErrStatic")
	q := made("class A { int x; A f(A a) { return this; } static A s; }")
	for _, name := range []string{"a", "int2", "if", "É"} {
		q.Classes[0].Name, q.Classes[0].Fields[1].Type = name, name
		q.Classes[0].Methods[0].Type, q.Classes[0].Methods[0].Params[0].Type = name, name
		check(t, q, scope(name, ""), strings.ReplaceAll("this: N\nx: int N.0\nf(this).x: int N.0 N.0\ns: N N.1\ns == this: boolean N.1\nf(null): N N.0\nf(1): ErrMethod\nthis as A: ErrClass", "N", name))
	}
}
