package parse_test

import (
	"strings"
	"testing"

	"changeling/api"
	"changeling/parse"
	"changeling/tree"
)

func name(s string) api.Expr { return api.Expr{Kind: api.EName, Name: s} }
func num(n int32) api.Expr   { return api.Expr{Kind: api.EInt, Num: n} }
func un(op string, e api.Expr) api.Expr {
	return api.Expr{Kind: api.EUn, Name: op, L: []api.Expr{e}}
}
func bin(op string, a, b api.Expr) api.Expr {
	return api.Expr{Kind: api.EBin, Name: op, L: []api.Expr{a, b}}
}
func call(f string, args ...api.Expr) api.Expr {
	return api.Expr{Kind: api.ESelf, Name: f, L: args}
}
func on(kind int, e ...api.Expr) api.Stmt { return api.Stmt{Kind: kind, E: e} }

// inMethod is a program with statements in a method, inCtor one with them in a constructor.
func inMethod(s string) string { return "class A { void f() { " + s + " } }" }
func inCtor(s string) string   { return "class A { A() { " + s + " } }" }

// answer is what a call tells, but for the tree.
type answer struct{ code, at int }

func ofProgram(t *testing.T, s string) answer {
	t.Helper()
	p, code, at := parse.Program(s)
	if code != 0 && !alike(p, api.Program{}) || code == 0 && !tree.May(p) {
		t.Fatalf("%.80s: %d and a program beside it", s, code)
	}
	return answer{code, at}
}

func ofExpr(t *testing.T, s string) answer {
	t.Helper()
	e, code, at := parse.Expr(s)
	if code != 0 && !alike(e, api.Expr{}) || code == 0 && e.Kind == 0 {
		t.Fatalf("%.80s: %d and an expression beside it", s, code)
	}
	return answer{code, at}
}

// checkPrograms holds Program against what each text asks for.
func checkPrograms(t *testing.T, wanted map[string]answer) {
	t.Helper()
	for s, want := range wanted {
		if got := ofProgram(t, s); got != want {
			t.Fatalf("%.80s: %v, not %v", s, got, want)
		}
	}
}

// TestTrees is promise 4.1: how tight each thing holds, by hand.
func TestTrees(t *testing.T) {
	a, b, c := name("a"), name("b"), name("c")
	for s, want := range map[string]api.Expr{
		"a - b - c":         bin("-", bin("-", a, b), c),
		"a-(b-c)":           bin("-", a, bin("-", b, c)),
		"a || b || c":       bin("||", bin("||", a, b), c),
		"a == b != c":       bin("!=", bin("==", a, b), c),
		"a < b <= c":        bin("<=", bin("<", a, b), c),
		"a / b % c":         bin("%", bin("/", a, b), c),
		"a @ b * c":         bin("*", bin("@", a, b), c),
		"a || b && c":       bin("||", a, bin("&&", b, c)),
		"a && b == c":       bin("&&", a, bin("==", b, c)),
		"a != b < c":        bin("!=", a, bin("<", b, c)),
		"a <= b + c":        bin("<=", a, bin("+", b, c)),
		"a - b @ c":         bin("-", a, bin("@", b, c)),
		"a * b + c":         bin("+", bin("*", a, b), c),
		"a + b < c":         bin("<", bin("+", a, b), c),
		"-a - -b":           bin("-", un("-", a), un("-", b)),
		"! # - a @ b":       bin("@", un("!", un("#", un("-", a))), b),
		"-a as A":           un("-", api.Expr{Kind: api.ECast, Type: "A", L: []api.Expr{a}}),
		"-(a) . b":          un("-", api.Expr{Kind: api.EField, Name: "b", L: []api.Expr{a}}),
		"1.b":               {Kind: api.EField, Name: "b", L: []api.Expr{num(1)}},
		"a is A . b ()":     {Kind: api.ECall, Name: "b", L: []api.Expr{{Kind: api.EIs, Type: "A", L: []api.Expr{a}}}},
		"super.a.b(c)":      {Kind: api.ECall, Name: "b", L: []api.Expr{{Kind: api.ESuperName, Name: "a"}, c}},
		"f(a, b + c, f())":  call("f", a, bin("+", b, c), call("f")),
		"new A(a).b":        {Kind: api.EField, Name: "b", L: []api.Expr{{Kind: api.ENew, Type: "A", L: []api.Expr{a}}}},
		"A::b(a, c)":        {Kind: api.EStatCall, Type: "A", Name: "b", L: []api.Expr{a, c}},
		" \n( ( a ) ) // b": a,
	} {
		if e, code, at := parse.Expr(s); code != 0 || at != 0 || !alike(e, want) {
			t.Fatal(s, e, code, at)
		}
	}
}

// TestMembers is promise 4.1: fields and methods each in their order, a constructor by the class's own name alone.
func TestMembers(t *testing.T) {
	p, code, at := parse.Program("class A extends B { A a; A() { } static A f(A a, int b) { } int b = 1; A(int a) { super(1); } static String c; void g() { } A h() { } } class B { }")
	param := api.Param{Type: "int", Name: "a"}
	want := api.Program{Classes: []api.Class{{
		Name: "A", Super: "B",
		Fields: []api.Field{{Type: "A", Name: "a"}, {Type: "int", Name: "b", Init: []api.Expr{num(1)}}, {Static: true, Type: "String", Name: "c"}},
		Methods: []api.Method{
			{Ctor: true},
			{Static: true, Type: "A", Name: "f", Params: []api.Param{{Type: "A", Name: "a"}, {Type: "int", Name: "b"}}},
			{Ctor: true, Params: []api.Param{param}, Body: []api.Stmt{on(api.SSuper, num(1))}},
			{Type: "void", Name: "g"}, {Type: "A", Name: "h"},
		},
	}, {Name: "B"}}}
	if code != 0 || at != 0 || !alike(p, want) {
		t.Fatal(p, code, at)
	}
	checkPrograms(t, map[string]answer{
		"":                                   {},
		" // nothing":                        {},
		"class A { }":                        {},
		"class A { B() { } }":                {api.ErrParse, 11},
		"class B { } class A { B() { } }":    {api.ErrParse, 23},
		"class A { static A() { } }":         {api.ErrParse, 18},
		"class A { A; }":                     {api.ErrParse, 11},
		"class A { void A() { } }":           {api.ErrParse, 15},
		"class A { void a; }":                {api.ErrParse, 16},
		"class A { void a = 1; }":            {api.ErrParse, 17},
		"class A { int a, b; }":              {api.ErrParse, 15},
		"class A { int a }":                  {api.ErrParse, 16},
		"class A { int f(void a) { } }":      {api.ErrParse, 16},
		"class A { int f(static int a) { }}": {api.ErrParse, 16},
		"class A { int f(int a; int b) { }}": {api.ErrParse, 21},
		"class A { int f(); }":               {api.ErrParse, 17},
		"class A { static static int a; }":   {api.ErrParse, 17},
		"class A { static }":                 {api.ErrParse, 17},
		"class A { a; }":                     {api.ErrParse, 10},
		"class A extends { }":                {api.ErrParse, 16},
		"class A extends A, B { }":           {api.ErrParse, 17},
		"class String { }":                   {api.ErrParse, 6},
		"class A extends String { }":         {api.ErrParse, 16},
		"class A { } int a;":                 {api.ErrParse, 12},
		"class A { }  // x\n":                {},
		"class A {  // x\n":                  {api.ErrParse, 16},
	})
}

// TestStatements is promise 4.1: one of each, by hand, and which words tell them.
func TestStatements(t *testing.T) {
	a, b := name("a"), name("b")
	ret := []api.Stmt{on(api.SReturn)}
	for s, want := range map[string]api.Stmt{
		"int a = b;":                      {Kind: api.SVar, Type: "int", Name: "a", E: []api.Expr{b}},
		"boolean a = b;":                  {Kind: api.SVar, Type: "boolean", Name: "a", E: []api.Expr{b}},
		"String a = b;":                   {Kind: api.SVar, Type: "String", Name: "a", E: []api.Expr{b}},
		"A a = b;":                        {Kind: api.SVar, Type: "A", Name: "a", E: []api.Expr{b}},
		"A::a = b;":                       on(api.SAssign, api.Expr{Kind: api.EStatic, Type: "A", Name: "a"}, b),
		"a.b = b;":                        on(api.SAssign, api.Expr{Kind: api.EField, Name: "b", L: []api.Expr{a}}, b),
		"super.a = b;":                    on(api.SAssign, api.Expr{Kind: api.ESuperName, Name: "a"}, b),
		"((a)) = (b);":                    on(api.SAssign, a, b),
		"super.f(a);":                     on(api.SExpr, api.Expr{Kind: api.ESuperCall, Name: "f", L: []api.Expr{a}}),
		"A::f(a);":                        on(api.SExpr, api.Expr{Kind: api.EStatCall, Type: "A", Name: "f", L: []api.Expr{a}}),
		"(f());":                          on(api.SExpr, call("f")),
		"new A();":                        on(api.SExpr, api.Expr{Kind: api.ENew, Type: "A"}),
		"1.f();":                          on(api.SExpr, api.Expr{Kind: api.ECall, Name: "f", L: []api.Expr{num(1)}}),
		"if (a) { return; }":              {Kind: api.SIf, E: []api.Expr{a}, A: ret},
		"if (a) { } else { f();}":         {Kind: api.SIf, E: []api.Expr{a}, B: []api.Stmt{on(api.SExpr, call("f"))}},
		"while (a) { return; }":           {Kind: api.SWhile, E: []api.Expr{a}, A: ret},
		"return;":                         on(api.SReturn),
		"return a;":                       on(api.SReturn, a),
		"print a + b;":                    on(api.SPrint, bin("+", a, b)),
		"assert 7 -a;":                    {Kind: api.SAssert, Num: 7, E: []api.Expr{un("-", a)}},
		"assert 7 (a);":                   {Kind: api.SAssert, Num: 7, E: []api.Expr{a}},
		"throw a;":                        on(api.SThrow, a),
		"try { return; } catch (A a) { }": {Kind: api.STry, Type: "A", Name: "a", A: ret},
		"try { } catch (A a) { return; } finally { }":                 {Kind: api.STry, Type: "A", Name: "a", B: ret},
		"try { } catch (A a) { } finally { return; }":                 {Kind: api.STry, Type: "A", Name: "a", C: ret},
		"if (a) { if (b) { } else { return; } }":                      {Kind: api.SIf, E: []api.Expr{a}, A: []api.Stmt{{Kind: api.SIf, E: []api.Expr{b}, B: ret}}},
		"try { try { } catch (A a) { } finally { } } catch (B b) { }": {Kind: api.STry, Type: "B", Name: "b", A: []api.Stmt{{Kind: api.STry, Type: "A", Name: "a"}}},
	} {
		p, code, at := parse.Program(inMethod(s))
		if code != 0 || at != 0 || !alike(p.Classes[0].Methods[0].Body, []api.Stmt{want}) {
			t.Fatal(s, p, code, at)
		}
	}
	for s, at := range map[string]int{
		";": 0, "{ }": 0, "void a = b;": 0, "else { }": 0, "catch (A a) { }": 0, "class B { }": 0, "static int a = 1;": 0, "finally { }": 0,
		"int a;": 5, "A a;": 3, "A b c": 4, "A 1;": 2, "A;": 1, "A as A;": 2, "A.b = 1;": 1, "A b();": 3, "String::a = 1;": 6, "String();": 6, "int = 1;": 4, "int A = 1;": 4, "A int = 1;": 2, "A \"a\" = 1;": 2,
		"if a { }": 3, "if () { }": 4, "if (a) f();": 7, "if (a) { } else if (b) { }": 16, "if (a) { } else f();": 16, "while { }": 6, "while (a);": 9,
		"print;": 5, "print a, b;": 7, "throw;": 5, "assert a;": 7, "assert 7;": 8, "assert -7 a;": 7, "return a": 9, "return return;": 7,
		"try { } finally { }": 8, "try { } catch { }": 14, "try { } catch (A) { }": 16, "try { } catch (int a) { }": 15, "try { } catch (String a) { }": 15, "try { } catch (a) { }": 15, "try { } catch (A a) { } catch (B b) { }": 24, "try f();": 4,
		"a = b = c;": 6, "a == b = c": 11, "int a = b = c;": 10, "super;": 5, "super = a;": 6, "super(a).b();": 8, "super(a) = b;": 9, "super(a": 8, "super.A();": 6, "f()": 4, "(a; )": 2, "f(a b);": 4, "f(,);": 2, "f(a,);": 4, "new int();": 4, "new A;": 5, "this();": 4, "f()();": 3, "a.super;": 2, "a.new B();": 2, "a as int;": 5, "a is String;": 5,
	} {
		want := answer{api.ErrParse, len("class A { void f() { ") + at}
		if got := ofProgram(t, inMethod(s)); got != want {
			t.Fatal(s, got, want)
		}
	}
}

// TestMisplaced is promise 4.1: what is told behind all, the first one by places.
func TestMisplaced(t *testing.T) {
	const m, c = len("class A { void f() { "), len("class A { A() { ")
	checkPrograms(t, map[string]answer{
		inCtor("super();"):                          {},
		inCtor("super(); f();"):                     {},
		inMethod("super();"):                        {api.ErrParse, m},
		inMethod("f(); super(a);"):                  {api.ErrParse, m + 5},
		inCtor("f(); super();"):                     {api.ErrParse, c + 5},
		inCtor("super(); super();"):                 {api.ErrParse, c + 9},
		inCtor("if (a) { super(); }"):               {api.ErrParse, c + 9},
		inCtor("while (a) { super(); }"):            {api.ErrParse, c + 12},
		inCtor("try { super(); } catch (A a) { }"):  {api.ErrParse, c + 6},
		"class A { A f() { super(); } }":            {api.ErrParse, 18},
		"class A { A() { } void f() { super(); } }": {api.ErrParse, 29},
		"class A { A() { } A() { super(); } }":      {},
		inMethod("a;"):                              {api.ErrParse, m},
		inMethod("(a);"):                            {api.ErrParse, m},
		inMethod("f(); a.b;"):                       {api.ErrParse, m + 5},
		inMethod("super.a;"):                        {api.ErrParse, m},
		inMethod("A::a;"):                           {api.ErrParse, m},
		inMethod("f() + f();"):                      {api.ErrParse, m},
		inMethod("-f();"):                           {api.ErrParse, m},
		inMethod("f() as A;"):                       {api.ErrParse, m},
		inMethod("f() is A;"):                       {api.ErrParse, m},
		inMethod("1;"):                              {api.ErrParse, m},
		inMethod("\"t\";"):                          {api.ErrParse, m},
		inMethod("null;"):                           {api.ErrParse, m},
		inMethod("this;"):                           {api.ErrParse, m},
		inMethod("true;"):                           {api.ErrParse, m},
		inMethod("f() = a;"):                        {api.ErrParse, m},
		inMethod("super.f() = a;"):                  {api.ErrParse, m},
		inMethod("A::f() = a;"):                     {api.ErrParse, m},
		inMethod("new A() = a;"):                    {api.ErrParse, m},
		inMethod("a.f() = a;"):                      {api.ErrParse, m},
		inMethod("a as A = a;"):                     {api.ErrParse, m},
		inMethod("a is A = a;"):                     {api.ErrParse, m},
		inMethod("a + b = a;"):                      {api.ErrParse, m},
		inMethod("!a = a;"):                         {api.ErrParse, m},
		inMethod("1 = a;"):                          {api.ErrParse, m},
		inMethod("true = a;"):                       {api.ErrParse, m},
		inMethod("\"a\" = a;"):                      {api.ErrParse, m},
		inMethod("null = a;"):                       {api.ErrParse, m},
		inMethod("this = a;"):                       {api.ErrParse, m},
		inMethod("f(); if (a) { b = 1; a; } c;"):    {api.ErrParse, m + 21},
		inMethod("a; super(); b;"):                  {api.ErrParse, m},
		inMethod("super(); a; 1 = 1;"):              {api.ErrParse, m},
		inMethod("1 = 1; super(); a;"):              {api.ErrParse, m},
		// Each fault of another sort is told ahead of these, wherever it is.
		inMethod("a;") + " class":                              {api.ErrParse, m + 12},
		inMethod("a; b = 2147483648;"):                         {api.ErrLimit, m + 7},
		inMethod("super(); " + strings.Repeat("(", 41)):        {api.ErrDeep, m + 9 + 40},
		inMethod("1 = 1;") + " ?":                              {api.ErrSign, m + 11},
		inMethod("a;") + strings.Repeat("class A { }", 20):     {api.ErrParse, m},
		inMethod("f(" + strings.Repeat("a,", 3000) + "a); a;"): {api.ErrParse, m + 6006},
	})
}
