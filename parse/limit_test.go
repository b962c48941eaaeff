package parse_test

import (
	"math/rand"
	"strings"
	"testing"

	"changeling/api"
	"changeling/parse"
)

// fill is s with w where s has a ~, and where that is.
func fill(s, w string) (string, int) {
	return strings.ReplaceAll(s, "~", w), strings.Index(s, "~")
}

// names and classes have a ~ where a NAME or a CLASS must be; types where any TYPE may.
var (
	names = []string{
		"class A { int ~; }", "class A { static A ~ = 1; }", "class A { void ~() { } }", "class A { int ~() { } }", "class A { A(int a, int ~) { } }", "class A { void f(A ~) { } }",
		inMethod("int ~ = 1;"), inMethod("try { } catch (A ~) { }"),
		inMethod("a = this.~;"), inMethod("a.~();"), inMethod("super.~ = 1;"), inMethod("super.~();"), inMethod("A::~ = 1;"), inMethod("A::~();"), inMethod("new A().~();"),
	}
	classes = []string{
		"class ~ { }", "class A extends ~ { }", "class B { } class ~ { }", inMethod("try { } catch (~ a) { }"),
		inMethod("a = b as ~;"), inMethod("a = b is ~;"), inMethod("new ~();"),
	}
	types = []string{
		"class A { ~ a; }", "class A { static ~ a; }", "class A { ~ f() { } }", "class A { void f(int a, ~ b) { } }", "class A { A(~ b) { } }",
	}
	// nameFirst and classFirst have it where other things might begin, too.
	nameFirst  = []string{inMethod("~ = 1;"), inMethod("~();"), inMethod("~.a = 1;"), inMethod("a = ~;"), inMethod("f(a, ~);"), inMethod("if (~) { }"), inMethod("A ~ = 1;")}
	classFirst = []string{inMethod("~ a = 1;"), inMethod("~::a = 1;"), inMethod("~::f();"), inMethod("a = ~::a;"), inMethod("a = -~::f();")}
)

// TestNames is promise 4.1: a NAME and a CLASS of up to MaxName bytes may be at each of their places, a longer one is a limit.
func TestNames(t *testing.T) {
	tail := strings.Repeat("x", 19)
	check := func(first string, places ...string) {
		for _, place := range places {
			for w, code := range map[string]int{first: 0, first + tail: 0, first + tail + "0": api.ErrLimit, strings.Repeat(first+tail, 5): api.ErrLimit} {
				s, at := fill(place, w)
				if code == 0 {
					at = 0
				}
				if got := ofProgram(t, s); got != (answer{code, at}) {
					t.Fatal(s, got)
				}
			}
		}
	}
	check("n", append(names, nameFirst...)...)
	check("N", append(append(classes, types...), classFirst...)...)
	for _, place := range types {
		for _, w := range []string{"int", "boolean", "String"} {
			if s, _ := fill(place, w); ofProgram(t, s) != (answer{}) {
				t.Fatal(s)
			}
		}
	}
	// Too long, and behind it no word can stand: it is told first.
	for s, at := range map[string]int{"class A { N~ class": 10, "class A { int n~ class": 14, "class A { void f() { n~ class": 21, "class A { void f() { N~ class": 21, "class A { void f() { a. n~ ~": 24} {
		s, _ = fill(s, tail+"0")
		if got := ofProgram(t, s); got != (answer{api.ErrLimit, at}) {
			t.Fatal(s, got)
		}
	}
}

// TestNoNames is promise 4.1: words that are no NAME or CLASS, where one must be; a long one of the other sort is none either.
func TestNoNames(t *testing.T) {
	tail := strings.Repeat("x", 20)
	check := func(places []string, none ...string) {
		for _, place := range places {
			for _, w := range none {
				s, at := fill(place, w)
				if got := ofProgram(t, s); got != (answer{api.ErrParse, at}) {
					t.Fatal(s, got)
				}
			}
		}
	}
	check(names, "N", "N"+tail, "int", "boolean", "String", "void", "super", "is", "finally", "7", `"n"`, "::", "-")
	check(classes, "n", "n"+tail, "int", "boolean", "String", "void", "this", "as", "extends", "7", `"N"`, "::", "-")
	check(types, "n", "n"+tail, "true", "class", "extends", "7", `"N"`, `"int"`, "::", "-")
}

// TestNumbers is promise 4.1: how great a NUMBER may be, however many digits it has.
func TestNumbers(t *testing.T) {
	zeros := strings.Repeat("0", 100)
	for s, want := range map[string]int32{"0": 0, "2147483647": 1<<31 - 1, "0002147483647": 1<<31 - 1, zeros: 0, zeros + "12": 12} {
		e, code, at := parse.Expr(" " + s)
		if code != 0 || at != 0 || !alike(e, num(want)) {
			t.Fatal(s, e, code, at)
		}
	}
	for _, s := range []string{"2147483648", "2147483649", "4294967295", "4294967296", "4294967303", "9223372036854775807", "9223372036854775808", "18446744073709551615", "18446744073709551617", "1" + zeros, "02147483648"} {
		if got := ofExpr(t, " "+s); got != (answer{api.ErrLimit, 1}) {
			t.Fatal(s, got)
		}
		if got := ofExpr(t, "a - "+s+" b"); got != (answer{api.ErrLimit, 4}) {
			t.Fatal(s, got)
		}
		if got := ofExpr(t, "a "+s); got != (answer{api.ErrParse, 2}) {
			t.Fatal(s, got)
		}
	}
	at := len("class A { void f() { assert ")
	for s, want := range map[string]answer{
		"0": {}, "9999": {}, zeros + "9999": {}, "7 10000 +": {},
		"10000": {api.ErrLimit, at}, "65536": {api.ErrLimit, at}, "2147483647": {api.ErrLimit, at}, "4294967296": {api.ErrLimit, at}, "1" + zeros: {api.ErrLimit, at},
		`"7"`: {api.ErrParse, at}, "-1": {api.ErrParse, at},
	} {
		if got := ofProgram(t, inMethod("assert "+s+" a;")); got != want {
			t.Fatal(s, got)
		}
	}
}

// tooDeep is the word of a program, of one class with one member, with which more than 41 things are open that count, told word by word; -1, if there is none.
func tooDeep(words []string) int {
	var open []string // what is open: words that count, and others as "no"
	last, inside := "", false
	for i, w := range words {
		afterValue := last == ")" || last != "" && strings.Contains("Aab1", last)
		if afterValue && w != "." && w != "(" && w != "as" && w != "::" {
			for len(open) > 0 && strings.Contains("-!#", open[len(open)-1]) {
				open = open[:len(open)-1]
			}
		}
		switch {
		case w == "{" && len(open) == 0, w == "(" && (!inside || last == "if" || last == "while" || last == "catch"):
			open = append(open, "no")
		case w == "{", w == "(", w == "!", w == "#", w == "-" && !afterValue:
			open = append(open, w)
		case w == ")", w == "}":
			open = open[:len(open)-1]
		}
		inside = inside || w == ")" || w == "=" // behind PARAMS, or the name of a field
		count := 0
		for _, x := range open {
			if x != "no" {
				count++
			}
		}
		if count > 41 {
			return i
		}
		last = w
	}
	return -1
}

// putDeep writes an expression with about that many things open within one another.
func (m *maker) putDeep(n int) {
	if n <= 0 {
		m.put(m.pick("a", "b", "1"))
		return
	}
	m.put(strings.Fields(m.pick("", "", "", "a +", "- a -", "( a ) *", "- ( b . a ) <", "f ( - a ) . b -", "! # a @ - b ||", "- a as A -"))...)
	switch m.Intn(5) {
	case 0, 1:
		m.put(m.pick("-", "!", "#"))
		m.putDeep(n - 1)
		return
	case 2:
		m.put("(")
	default:
		m.put(strings.Fields(m.pick("f (", "a . f (", "super . f (", "A :: f (", "new A (", "f ( a ,", "a . b . f ( ( a ) , - b ,"))...)
	}
	m.putDeep(n - 1)
	m.put(strings.Fields(m.pick(")", ")", ") . a", ") as A", ") . f ( - ( a ) )", ") + - a", ") - a * ( b )"))...)
}

// putDeepBlock writes a block, likewise.
func (m *maker) putDeepBlock(n int) {
	m.put("{")
	m.put(strings.Fields(m.pick("", "f ( - a ) ;", "if ( a ) { } else { }", "while ( ( a ) ) { f ( ) ; }"))...)
	if n > 1 && m.Intn(20) > 0 {
		m.put(strings.Fields(m.pick("if ( a )", "if ( ! a ) { } else", "while ( f ( a ) )", "try { } catch ( A a )", "try { f ( ) ; } catch ( A a ) { } finally"))...)
		m.putDeepBlock(n - 1)
	} else {
		m.put(strings.Fields(m.pick("return", "while (", "a =", "print", "throw", "int b ="))...)
		closing := ";"
		if m.words[len(m.words)-1] == "(" {
			closing = ") { }"
		}
		m.putDeep(n - 1)
		m.put(strings.Fields(closing)...)
	}
	m.put("}")
}

// TestDeep is promise 4.1: the word that would open one thing more than 41; what counts, what does not, and what is open no more.
func TestDeep(t *testing.T) {
	m := &maker{Rand: rand.New(rand.NewSource(43))}
	deep, shallow := 0, 0
	for deep < 400 || shallow < 400 {
		m.words = strings.Fields("class A {")
		n := 36 + m.Intn(12)
		switch m.Intn(4) {
		case 0:
			m.put("int", "a", "=")
			m.putDeep(n)
			m.put(";")
		case 1:
			m.put("A", "(", "int", "a", ")", "{", "super", "(")
			m.putDeep(n - 2)
			m.put(")", ";", "}")
		default:
			m.put("void", "f", "(", "int", "a", ")")
			m.putDeepBlock(n)
		}
		m.put("}")
		s, places := m.text()
		got := ofProgram(t, s)
		if i := tooDeep(m.words); i >= 0 {
			deep++
			if got != (answer{api.ErrDeep, places[i]}) {
				t.Fatal(s, got, places[i])
			}
			continue
		}
		shallow++
		if got != (answer{}) && got != (answer{api.ErrLimit, 0}) {
			t.Fatal(s, got)
		}
	}
}

// TestDeepByHand is promise 4.1: each thing that counts, 41 times and once more, and those that do not, as often as one likes.
func TestDeepByHand(t *testing.T) {
	// Each leaves one open; the number is where in it the word is with which there is one more than before.
	for open, word := range map[string]int{
		"(": 0, "-": 0, "!": 0, "#": 0, "f(": 1, "a.f(": 3, "super.f(": 7, "A::f(": 4, "new A(": 5, "f(a, ": 1, "a + (": 4,
		"(a) + (": 0, "-a @ (": 0, "f(a).f(": 1, "a - -a * (": 4,
	} {
		full := strings.Repeat(open, 41)
		for s, want := range map[string]answer{
			full:                  {api.ErrParse, len(full)},
			full + "a class":      {api.ErrParse, len(full) + 2},
			full + open:           {api.ErrDeep, len(full) + word},
			full + open + "class": {api.ErrDeep, len(full) + word},
		} {
			if got := ofExpr(t, s); got != want {
				t.Fatal(s, got, want)
			}
		}
	}
	many := func(s string) string { return strings.Repeat(s, 100) }
	for _, s := range []string{many("-a - ") + "a", many("(a) + ") + "a", many("f(a).") + "a", many("a + -") + "a"} {
		if got := ofExpr(t, s); got != (answer{api.ErrLimit, 0}) {
			t.Fatal(s, got)
		}
	}
	for _, s := range []string{
		inMethod(many("f(-(a)); ")), inMethod(many("if (a) { } else { } ")), inMethod(many("while ((-a)) { } ")), inMethod(many("try { } catch (A a) { } finally { } ")), inMethod("f(" + many("(-a), ") + "a);"),
		"class A { " + strings.Repeat("void f(int a) { } ", 30) + "}",
	} {
		if got := ofProgram(t, s); got != (answer{}) {
			t.Fatal(s, got)
		}
	}
	// With 41 blocks open, brackets that do not count are still read.
	blocks := "class A { void f() { " + strings.Repeat("while (a) { ", 40)
	for s, want := range map[string]answer{
		"if (a":              {api.ErrParse, 5},
		"while (a) {":        {api.ErrDeep, 10},
		"while (-a":          {api.ErrDeep, 7},
		"if ((":              {api.ErrDeep, 4},
		"f(":                 {api.ErrDeep, 1},
		"try {":              {api.ErrDeep, 4},
		"super(":             {api.ErrDeep, 5},
		"{":                  {api.ErrParse, 0},
		"} try { } catch (A": {api.ErrParse, 18},
	} {
		want.at += len(blocks)
		if got := ofProgram(t, blocks+s); got != want {
			t.Fatal(s, got)
		}
	}
}

// TestMay is promise 4.1: behind all, the limits of tree.May, each from both sides.
func TestMay(t *testing.T) {
	many := func(s string, n int) string { return strings.Repeat(s, n) }
	limit := answer{api.ErrLimit, 0}
	for name, make := range map[string]func(more int) string{
		"classes": func(more int) string { return many("class A { } ", 20+more) },
		"fields":  func(more int) string { return "class A { " + many("int a; ", 30+more) + many("A() { } ", 30) + "}" },
		"methods": func(more int) string { return "class A { " + many("int a; ", 30) + many("A f() { } ", 30+more) + "}" },
		"both sorts": func(more int) string {
			return "class A { " + many("A() { } ", 15+more) + many("void f() { } ", 15) + "}"
		},
		"params":     func(more int) string { return "class A { void f(int a" + many(", int a", 5+more) + ") { } }" },
		"of a ctor":  func(more int) string { return "class A { A(int a" + many(", int a", 5+more) + ") { } }" },
		"nodes":      func(more int) string { return inMethod(many("f(); ", 1499) + many("return; ", more)) },
		"text":       func(more int) string { return inMethod("return \"" + many("é", 500) + many("x", more) + "\";") },
		"escaped":    func(more int) string { return "class A { int a = \"" + many("\\n", 1000+more) + "\"; }" },
		"chain":      func(more int) string { return inMethod("return a" + many(" - a", 39+more) + ";") },
		"ahead":      func(more int) string { return "class A { int a = " + many("-", 39+more) + "a; }" },
		"behind":     func(more int) string { return inMethod("a" + many(".b", 39+more) + " = 1;") },
		"statements": func(more int) string { return inMethod(many("if (a) { ", 39+more) + "return; " + many("} ", 39+more)) },
	} {
		if got := ofProgram(t, make(0)); got != (answer{}) {
			t.Fatal(name, got)
		}
		if got := ofProgram(t, make(1)); got != limit {
			t.Fatal(name, got)
		}
	}
	// Brackets are no nodes, and not deep in a tree.
	if got := ofProgram(t, inMethod("return "+many("(", 40)+"a"+many(")", 40)+";")); got != (answer{}) {
		t.Fatal("brackets", got)
	}
}

// TestExprLimits is promise 4.2: the size and the depth of an expression alone, each from both sides; there is no other limit of the whole.
func TestExprLimits(t *testing.T) {
	many := func(s string, n int) string { return strings.Repeat(s, n) }
	for name, make := range map[string]func(more int) string{
		"nodes":  func(more int) string { return "f(" + many("a,", 2998+more) + "a)" },
		"chain":  func(more int) string { return "a" + many(" - a", 39+more) },
		"ahead":  func(more int) string { return many("-", 39+more) + "a" },
		"calls":  func(more int) string { return many("f(a, ", 39+more) + "a" + many(", a)", 39+more) },
		"behind": func(more int) string { return "a" + many(" as A", 20) + many(".b()", 19+more) },
	} {
		if got := ofExpr(t, make(0)); got != (answer{}) {
			t.Fatal(name, got)
		}
		if got := ofExpr(t, make(1)); got != (answer{api.ErrLimit, 0}) {
			t.Fatal(name, got)
		}
	}
	for _, s := range []string{"\"" + many("x", 7998) + "\"", many("(", 41) + many("-", 0) + "a" + many(")", 41), many(" ", 7999) + "a"} {
		if got := ofExpr(t, s); got != (answer{}) {
			t.Fatal(s, got)
		}
	}
	if got := ofExpr(t, "a"+many(".b", 3999)+" "); got != (answer{api.ErrLimit, 0}) {
		t.Fatal("as deep as a text can be", got)
	}
}

// TestWordsFirst is promises 4.1 and 4.2: what word.All says is told ahead of all else.
func TestWordsFirst(t *testing.T) {
	for s, want := range map[string]answer{
		"class ( ?": {api.ErrSign, 8}, "?": {api.ErrSign, 0}, ") \"": {api.ErrSign, 2}, "2147483648 \"\\t\"": {api.ErrSign, 11}, "a &": {api.ErrSign, 2}, "a // \xff": {api.ErrSign, 5}, "a \xff": {api.ErrSign, 2},
		strings.Repeat("(", 43) + ">": {api.ErrSign, 43},
		strings.Repeat(" ", 8001):     {api.ErrLimit, 0}, "?" + strings.Repeat("a", 8000): {api.ErrLimit, 0},
	} {
		if got := ofExpr(t, s); got != want {
			t.Fatal(s, got)
		}
		if got := ofProgram(t, s); got != want {
			t.Fatal(s, got)
		}
	}
	full := "class A { }" + strings.Repeat(" ", 8000)
	if got := ofProgram(t, full[:8000]); got != (answer{}) {
		t.Fatal(got)
	}
	if got := ofProgram(t, full[:8001]); got != (answer{api.ErrLimit, 0}) {
		t.Fatal(got)
	}
	if got := ofExpr(t, strings.Repeat(" ", 8000)); got != (answer{api.ErrParse, 8000}) {
		t.Fatal(got)
	}
}

// TestAnyText is promise 4.3 and T1: whatever the text is, a program or one fault in it, and the same again.
func TestAnyText(t *testing.T) {
	r := rand.New(rand.NewSource(44))
	words := strings.Fields("class extends static void int boolean String A B a b 7 9999999999 \"t\" ( ( ) ) { } ; , . = == < + - ! # @ :: :: && || if else while return print assert throw try catch finally super this new null true as is ? \xff // \"")
	check := func(s string) {
		got, again := ofProgram(t, s), ofProgram(t, s)
		alone, anew := ofExpr(t, s), ofExpr(t, s)
		for _, a := range []answer{got, alone} {
			if a.at < 0 || a.at > len(s) || a.code == 0 && a.at != 0 || a.code == api.ErrLimit && a.at != 0 && len(s) > api.MaxSource {
				t.Fatalf("%q: %v", s, a)
			}
		}
		if got != again || alone != anew {
			t.Fatalf("%q: not the same again", s)
		}
	}
	for range 20000 {
		var b strings.Builder
		b.WriteString([]string{"", "class A { void f() { ", "class A { A() { super(", "class A {"}[r.Intn(4)])
		for range r.Intn(30) {
			b.WriteString(words[r.Intn(len(words))])
			b.WriteString([]string{" ", " ", " ", "", "\n"}[r.Intn(5)])
		}
		check(b.String())
		raw := make([]byte, r.Intn(12))
		r.Read(raw)
		check(string(raw))
	}
	for _, w := range words {
		check(strings.Repeat(w+" ", 8000/(len(w)+1)))
		check("class A { void f() { " + strings.Repeat(w+" ", 7900/(len(w)+1)))
	}
}
