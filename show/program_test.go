package show_test

import (
	"reflect"
	"slices"
	"strings"
	"testing"

	"changeling/api"
	"changeling/parse"
	"changeling/show"
	"changeling/tree"
)

// whole has each thing that a program can have, as it must be shown.
const whole = `class A extends B {
  static int x = 1;
  int y;
  static String s;
  B o = new B(a + b, -a);
  boolean z = !(a < b);
  A(int a, B b) {
    super(a, (b - a) - 1);
    this.y = a;
  }
  A() {
  }
  static void f() {
  }
  int f(int a, B b) {
    if (a < 1) {
      int x = 2;
      return x;
    }
    if (true) {
    } else {
      while (a != 2147483647) {
        a = a + 1;
        print "{ \" }\n";
      }
    }
    return (a + 1) * #"é";
  }
  String g(A a) {
    try {
      try {
        throw new NullFault();
      } catch (C c) {
      } finally {
        assert 3 -a;
        super.g(a as A).h();
      }
    } catch (Fault e) {
      A::x = super.y;
      A b = null;
    }
    return;
  }
  static A h() {
    return A::h(false);
  }
}
class B {
}
class C extends A {
  C() {
    super();
  }
}
`

// checkProgram holds what Program answers against the text, or the code, that is asked for.
func checkProgram(t *testing.T, p api.Program, want string, wantCode int) {
	t.Helper()
	if got, code := show.Program(p); got != want || code != wantCode {
		t.Fatalf("%d and %q, not %d and %q", code, got, wantCode, want)
	}
}

// TestWholeProgram is promises 5.3 and 5.4, by hand: it is shown as it stands here, and read so.
func TestWholeProgram(t *testing.T) {
	p, code, at := parse.Program(whole)
	if code != 0 {
		t.Fatal(code, at)
	}
	checkProgram(t, p, whole, 0)
	empty, _, _ := parse.Program("class A { A() { if (a) { } else { } try { } catch (B b) { } finally { } } }")
	checkProgram(t, empty, "class A {\n  A() {\n    if (a) {\n    }\n    try {\n    } catch (B b) {\n    }\n  }\n}\n", 0)
}

// TestMembers is promise 5.3: fields ahead of methods, each with its own words.
func TestMembers(t *testing.T) {
	params := []api.Param{{Type: "int", Name: "a"}, {Type: "B", Name: "b"}, {Type: "String", Name: "c"}}
	c := api.Class{Name: "A", Methods: []api.Method{
		{Ctor: true, Params: params[:1]},
		{Type: "void", Name: "f", Params: params},
		{Static: true, Type: "A", Name: "g", Params: params[1:2], Body: []api.Stmt{on(api.SReturn)}},
	}}
	methods := "  A(int a) {\n  }\n  void f(int a, B b, String c) {\n  }\n  static A g(B b) {\n    return;\n  }\n"
	checkProgram(t, api.Program{}, "", 0)
	checkProgram(t, api.Program{Classes: []api.Class{}}, "", 0)
	checkProgram(t, api.Program{Classes: []api.Class{{Name: "A"}}}, "class A {\n}\n", 0)
	checkProgram(t, api.Program{Classes: []api.Class{{Name: "A", Super: "A"}, {Name: "A"}}}, "class A extends A {\n}\nclass A {\n}\n", 0)
	checkProgram(t, api.Program{Classes: []api.Class{c, {Name: "B"}}}, "class A {\n"+methods+"}\nclass B {\n}\n", 0)
	c.Super, c.Fields = "B", []api.Field{{Type: "int", Name: "x"}, {Static: true, Type: "boolean", Name: "y"}, {Static: true, Type: "A", Name: "z", Init: []api.Expr{bin("+", num(1), name("x"))}}, {Type: "String", Name: "x", Init: []api.Expr{num(2)}}}
	fields := "  int x;\n  static boolean y;\n  static A z = 1 + x;\n  String x = 2;\n"
	checkProgram(t, api.Program{Classes: []api.Class{c}}, "class A extends B {\n"+fields+methods+"}\n", 0)
}

// misfits are programs that may not have been read, one for each sort of thing that 3.2 asks.
func misfits() []api.Program {
	var l []api.Program
	class := func(c api.Class) { l = append(l, api.Program{Classes: []api.Class{c}}) }
	body := func(s ...api.Stmt) {
		class(api.Class{Name: "A", Methods: []api.Method{{Type: "void", Name: "f", Body: s}}})
	}
	a := name("a")
	class(api.Class{})
	class(api.Class{Name: "a"})
	class(api.Class{Name: "String"})
	class(api.Class{Name: "A", Super: "b"})
	class(api.Class{Name: "A", Fields: []api.Field{{Type: "void", Name: "a"}}})
	class(api.Class{Name: "A", Fields: []api.Field{{Type: "int", Name: "if"}}})
	class(api.Class{Name: "A", Fields: []api.Field{{Type: "int", Name: "a", Init: []api.Expr{a, a}}}})
	class(api.Class{Name: "A", Fields: slices.Repeat([]api.Field{{Type: "int", Name: "a"}}, api.MaxMembers+1)})
	class(api.Class{Name: "A", Methods: []api.Method{{Type: "int"}}})
	class(api.Class{Name: "A", Methods: []api.Method{{Ctor: true, Static: true}}})
	class(api.Class{Name: "A", Methods: []api.Method{{Ctor: true, Name: "A"}}})
	class(api.Class{Name: "A", Methods: []api.Method{{Type: "int", Name: "f", Params: []api.Param{{Type: "void", Name: "a"}}}}})
	body(api.Stmt{})
	body(on(api.SPrint))
	body(on(api.SPrint, api.Expr{}))
	body(on(api.SPrint, num(-1)))
	body(on(api.SPrint, quoted("\xff")))
	body(on(api.SPrint, quoted(strings.Repeat("x", api.MaxText+1))))
	body(on(api.SPrint, bin("^", a, a)))
	body(on(api.SExpr, a))
	body(on(api.SAssign, num(1), a))
	body(on(api.SSuper))
	body(api.Stmt{Kind: api.SAssert, Num: 10000, E: []api.Expr{a}})
	body(api.Stmt{Kind: api.SWhile, E: []api.Expr{a}, B: []api.Stmt{on(api.SReturn)}})
	body(slices.Repeat([]api.Stmt{on(api.SReturn)}, api.MaxNodes)...)
	deep := a
	for range api.MaxDeep {
		deep = un("-", deep)
	}
	body(on(api.SPrint, deep))
	endless := []api.Expr{{Kind: api.ESelf, Name: "f"}}
	endless[0].L = endless
	body(on(api.SPrint, endless[0]))
	return append(l, api.Program{Classes: slices.Repeat([]api.Class{{Name: "A"}}, api.MaxClasses+1)})
}

// TestMayNot is promise 5.3: ErrArg of each of them, alone and behind what may be, and ahead of ErrLimit.
func TestMayNot(t *testing.T) {
	for i, p := range misfits() {
		if tree.May(p) {
			t.Fatal("it may be", i)
		}
		checkProgram(t, p, "", api.ErrArg)
		for _, more := range []int{0, 1, 200} {
			q := sized(api.MaxSource + more)
			q.Classes = append(q.Classes, p.Classes...)
			checkProgram(t, q, "", api.ErrArg)
		}
	}
}

// sized is a program of which so many bytes are shown, 300 or more. Its texts are shorter than what is shown of them.
func sized(bytes int) api.Program {
	c := api.Class{Name: "A"}
	const around, least = len("  String x = \"\";\n"), 250
	left := bytes - len("class A {\n}\n")
	for left > 0 {
		n := min(left, 900)
		if left > n && left-n < least {
			n -= least // so that enough is left for the last one
		}
		text := strings.Repeat("é\n", 50)
		text += strings.Repeat("x", n-around-200)
		c.Fields = append(c.Fields, api.Field{Type: "String", Name: "x", Init: []api.Expr{quoted(text)}})
		left -= n
	}
	return api.Program{Classes: []api.Class{c}}
}

// TestLimit is promises 5.3 and 5.4: MaxSource from both sides, in bytes as they are shown.
func TestLimit(t *testing.T) {
	for _, bytes := range []int{300, 2000, 7990, 7999, 8000, 8001, 8002, 8300, 9000} {
		p := sized(bytes)
		if !tree.May(p) {
			t.Fatal(bytes)
		}
		if bytes > 8000 {
			checkProgram(t, p, "", api.ErrLimit)
			continue
		}
		s, code := show.Program(p)
		if q, wrong, at := parse.Program(s); len(s) != bytes || code != 0 || wrong != 0 || !tree.Same(p, q) {
			t.Fatal(bytes, len(s), code, wrong, at)
		}
	}
}

// TestBound is the rules that nothing is changed of what is handed in, and that what is bound does not count.
func TestBound(t *testing.T) {
	read := func() api.Program {
		p, _, _ := parse.Program(whole)
		bind(reflect.ValueOf(&p).Elem())
		return p
	}
	p := read()
	checkProgram(t, p, whole, 0)
	if !reflect.DeepEqual(p, read()) {
		t.Fatal("what is handed in has changed")
	}
}

// bind gives each Own and each Nth within v a value.
func bind(v reflect.Value) {
	switch v.Kind() {
	case reflect.Struct:
		for i := range v.NumField() {
			switch v.Type().Field(i).Name {
			case "Own":
				v.Field(i).SetString("Own")
			case "Nth":
				v.Field(i).SetInt(-1)
			default:
				bind(v.Field(i))
			}
		}
	case reflect.Slice:
		for i := range v.Len() {
			bind(v.Index(i))
		}
	}
}
