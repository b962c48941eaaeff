package typing_test

import (
	"testing"

	"changeling/api"
	"changeling/typing"
)

// wrongOnes are expressions with an error each, all of them others, in the scope of wrongScope.
func wrongOnes() map[int]api.Expr {
	return map[int]api.Expr{
		api.ErrName:   read("nn"),
		api.ErrClass:  read("None::x"),
		api.ErrMethod: read("a.nn()"),
		api.ErrVague:  read("b.v(null, null)"),
		api.ErrStatic: read("a.s"),
		api.ErrType:   read("i.x"),
		api.ErrCast:   read("a as C"),
	}
}

func wrongScope() typing.Scope { return scope("B", all) }

func with(e api.Expr, l ...api.Expr) api.Expr {
	e.L = l
	return e
}

// ofParts are expressions of those parts, one of each Kind that may have as many; some of them are wrong themselves.
func ofParts(l ...api.Expr) []api.Expr {
	all := []api.Expr{
		with(api.Expr{Kind: api.ECall, Name: "f"}, l...),
		with(api.Expr{Kind: api.ECall, Name: "nn"}, l...),
		with(api.Expr{Kind: api.ESelf, Name: "f"}, l...),
		with(api.Expr{Kind: api.ESelf, Name: "nn"}, l...),
		with(api.Expr{Kind: api.ESuperCall, Name: "f"}, l...),
		with(api.Expr{Kind: api.EStatCall, Name: "k", Type: "A"}, l...),
		with(api.Expr{Kind: api.EStatCall, Name: "k", Type: "None"}, l...),
		with(api.Expr{Kind: api.ENew, Type: "B"}, l...),
		with(api.Expr{Kind: api.ENew, Type: "None"}, l...),
	}
	if len(l) == 1 {
		for _, sign := range []string{"-", "!", "#"} {
			all = append(all, with(api.Expr{Kind: api.EUn, Name: sign}, l...))
		}
		for _, kind := range []int{api.ECast, api.EIs} {
			all = append(all, with(api.Expr{Kind: kind, Type: "A"}, l...), with(api.Expr{Kind: kind, Type: "None"}, l...))
		}
		all = append(all, with(api.Expr{Kind: api.EField, Name: "x"}, l...), with(api.Expr{Kind: api.EField, Name: "nn"}, l...))
	}
	if len(l) == 2 {
		for _, sign := range []string{"+", "@", "<", "==", "&&", "||"} {
			all = append(all, with(api.Expr{Kind: api.EBin, Name: sign}, l...))
		}
	}
	return all
}

func checkCode(t *testing.T, p api.Program, s typing.Scope, e api.Expr, want int) {
	t.Helper()
	if got := ask(t, p, s, e); got != told(api.Expr{}, "", want) {
		t.Fatalf("%v in %v is %s, not error %d", e, s, got, want)
	}
}

// TestFirstError is promise 10.1: the first error of a part, from left to right, is the error, whatever is wrong behind it and with the whole.
func TestFirstError(t *testing.T) {
	p := house()
	fine := []api.Expr{read("i"), read("a"), read("null"), read("g()")}
	for code, e := range wrongOnes() {
		checkCode(t, p, wrongScope(), e, code)
		for _, x := range ofParts(e) {
			checkCode(t, p, wrongScope(), x, code)
		}
		for _, ahead := range fine {
			for _, x := range append(ofParts(ahead, e), ofParts(ahead, ahead, e)...) {
				checkCode(t, p, wrongScope(), x, code)
			}
		}
		for other, f := range wrongOnes() {
			if other == code {
				continue
			}
			for _, x := range append(ofParts(e, f), ofParts(fine[0], e, f)...) {
				checkCode(t, p, wrongScope(), x, code)
			}
			// What stands deeper, but further to the left, goes first.
			for _, inner := range ofParts(fine[1], e) {
				for _, x := range ofParts(inner, f) {
					checkCode(t, p, wrongScope(), x, code)
				}
			}
		}
	}
}

// TestPartsGoFirst is promise 10.1: in a static scope, and where there is no Super, too, the parts' errors go ahead.
func TestPartsGoFirst(t *testing.T) {
	p := house()
	for _, class := range []string{"static B", "static A", "A"} {
		s := scope(class, all)
		for code, e := range wrongOnes() {
			for _, x := range ofParts(e) {
				checkCode(t, p, s, x, code)
			}
		}
	}
	check(t, house(), scope("static A", all), "super.f(nn): ErrName\nsuper.f(i): ErrStatic\nf(nn): ErrName")
	check(t, house(), scope("A", all), "super.f(nn): ErrName\nsuper.f(i): ErrClass")
}

// TestTurns is promise 10.1: of the errors of one expression the one that the chapter names first.
func TestTurns(t *testing.T) {
	check(t, house(), scope("B", all), `
		i.g(): ErrType
		i.nn: ErrType
		a.g(1): ErrMethod
		a.g(u): ErrType
		a.k(null): ErrMethod
		b.v(null, b): ErrVague
		None::g(u): ErrClass
		None::nn(): ErrClass
		A::nn(u): ErrType
		A::f(u): ErrType
		A::f(q): ErrMethod
		B::v(b, b): ErrVague
		new None(u): ErrClass
		new B(u): ErrType
		new B(u, nn): ErrName
		new B(null, u): ErrType
		i as None: ErrClass
		u as None: ErrClass
		u as A: ErrType
		i is None: ErrClass
		c is None: ErrClass
		super.nn: ErrName
		super.g(u): ErrType
		super.g(1): ErrMethod
		u + nn: ErrName
		nn + u: ErrName
		i.x + nn: ErrType
		A::g() == None::x: ErrClass`)
	check(t, house(), scope("static A", all), `
		f(u): ErrType
		f(q): ErrMethod
		f(1): ErrStatic
		nn(u): ErrType
		y: ErrName
		super.y: ErrStatic
		super.g(u): ErrStatic
		this == u: ErrStatic
		u == this: ErrStatic`)
	check(t, house(), scope("A", all), "super.f(u): ErrClass\nsuper.nn: ErrClass\nsuper.g(): ErrClass")
}
