package show_test

import (
	"math/rand"
	"slices"
	"strings"
	"testing"

	"changeling/api"
	"changeling/parse"
	"changeling/show"
	"changeling/sign"
	"changeling/tree"
	"changeling/word"
)

// lot makes programs by lot, out of the plain ones of each kind.
type lot struct {
	*rand.Rand
	exprs []shown
	stmts []stmtShown
}

func newLot(seed int64) lot {
	return lot{rand.New(rand.NewSource(seed)), oneOfEach(), plainStmts()}
}

func (l lot) of(list ...string) string { return list[l.Intn(len(list))] }
func (l lot) name() string             { return l.of("a", "b", "c1", "isA", "nameOfTwentyBytes123") }
func (l lot) class() string            { return l.of("A", "B", "Exception", "ClassOfTwentyBytes12") }
func (l lot) typed() string            { return l.of("int", "boolean", "String", l.class()) }

func (l lot) expr(deep int) api.Expr {
	e := l.exprs[l.Intn(len(l.exprs))].e
	if deep <= 1 && len(e.L) > 0 {
		return name(l.name())
	}
	switch e.Kind {
	case api.EInt:
		e.Num = l.Int31()
	case api.EBool:
		e.Num = l.Int31n(2)
	case api.EText:
		e.Text = l.of("", "\"", "\\\n", "+", "(", "a b", "é\uFFFD", "// {", "\t\r\x00")
	case api.EBin:
		e.Name = l.of(strings.Fields("+ - * / % @ < <= == != && ||")...)
	case api.EUn:
		e.Name = l.of("-", "!", "#")
	default:
		if e.Name != "" {
			e.Name = l.name()
		}
		if e.Type != "" {
			e.Type = l.class()
		}
	}
	e.L = l.parts(e, deep-1)
	return e
}

// parts makes as many as e has; ARGS are none to three.
func (l lot) parts(e api.Expr, deep int) []api.Expr {
	n := len(e.L)
	switch e.Kind {
	case api.ECall:
		n = 1 + l.Intn(4)
	case api.ESelf, api.ESuperCall, api.EStatCall, api.ENew:
		n = l.Intn(4)
	}
	var parts []api.Expr
	for range n {
		parts = append(parts, l.expr(deep))
	}
	return parts
}

func (l lot) stmt(deep int) api.Stmt {
	if deep > 1 && l.Intn(2) == 0 {
		blocks := withBlocks(l.block(deep - 1))
		s := blocks[l.Intn(len(blocks))].s
		if s.Kind != api.STry {
			s.E = []api.Expr{l.expr(3)}
		}
		return s
	}
	s := l.stmts[l.Intn(len(l.stmts)-3)].s // none of the last three: those are SSupers
	s.E = slices.Clone(s.E)
	for i, e := range s.E {
		if i == len(s.E)-1 && s.Kind != api.SExpr {
			e = l.expr(4)
		}
		e.L = l.parts(e, 3)
		s.E[i] = e
	}
	return s
}

func (l lot) block(deep int) []api.Stmt {
	var b []api.Stmt
	for range l.Intn(4) {
		b = append(b, l.stmt(deep))
	}
	return b
}

func (l lot) method() api.Method {
	m := api.Method{Static: l.Intn(2) == 0, Type: l.of("void", l.typed()), Name: l.name(), Body: l.block(4)}
	if l.Intn(3) == 0 {
		m = api.Method{Ctor: true, Body: append(l.super(), m.Body...)}
	}
	for range l.Intn(api.MaxParams + 1) {
		m.Params = append(m.Params, api.Param{Type: l.typed(), Name: l.name()})
	}
	return m
}

// super makes an SSuper, or none.
func (l lot) super() []api.Stmt {
	if l.Intn(2) == 0 {
		return nil
	}
	return []api.Stmt{on(api.SSuper, l.parts(of(api.ESelf, "f", ""), 3)...)}
}

func (l lot) field() api.Field {
	f := api.Field{Static: l.Intn(2) == 0, Type: l.typed(), Name: l.name()}
	if l.Intn(2) == 0 {
		f.Init = []api.Expr{l.expr(5)}
	}
	return f
}

func (l lot) program() api.Program {
	var p api.Program
	for range l.Intn(4) {
		c := api.Class{Name: l.class(), Super: l.of("", l.class())}
		for range l.Intn(4) {
			c.Fields = append(c.Fields, l.field())
		}
		for range l.Intn(4) {
			c.Methods = append(c.Methods, l.method())
		}
		p.Classes = append(p.Classes, c)
	}
	return p
}

// operand tells whether a - behind that word of l is one between two expressions.
func operand(l []word.Word, i int) bool {
	if i < 0 || i > 0 && l[i-1].Text == "assert" && l[i-1].Kind == 1 {
		return false
	}
	w := l[i]
	switch w.Kind {
	case 1:
		return !slices.Contains(strings.Fields("return print throw assert"), w.Text)
	case 2, 3:
		return true
	}
	return w.Text == ")"
}

// ahead tells whether that word is a sign ahead of an expression.
func ahead(l []word.Word, i int) bool {
	if l[i].Kind != 4 {
		return false
	}
	return l[i].Text == "!" || l[i].Text == "#" || l[i].Text == "-" && !operand(l, i-1)
}

// gap is what must stand between that word and the one ahead of it, in one line.
func gap(l []word.Word, i int) string {
	is := func(w word.Word, signs string) bool {
		return w.Kind == 4 && slices.Contains(strings.Fields(signs), w.Text)
	}
	before, w := l[i-1], l[i]
	called := before.Kind == 1 && (sign.Name(before.Text) || sign.Class(before.Text) || before.Text == "super")
	if is(before, "( . ::") || ahead(l, i-1) || is(w, ") ; , . ::") || is(w, "(") && called {
		return ""
	}
	return " "
}

// laid is how words must stand in lines, told by nothing but the words.
func laid(l []word.Word) string {
	var b strings.Builder
	open, fresh := 0, true
	for i, w := range l {
		is := func(s string) bool { return w.Kind == 4 && w.Text == s }
		if is("}") {
			open--
		}
		if fresh {
			b.WriteString(strings.Repeat("  ", open))
		} else {
			b.WriteString(gap(l, i))
		}
		if is("{") {
			open++
		}
		if w.Kind == 3 {
			b.WriteString(sign.Quote(w.Text))
		} else {
			b.WriteString(w.Text)
		}
		goesOn := i+1 < len(l) && l[i+1].Kind == 1 && slices.Contains([]string{"else", "catch", "finally"}, l[i+1].Text)
		if fresh = is("{") || is(";") || is("}") && !goesOn; fresh {
			b.WriteByte('\n')
		}
	}
	return b.String()
}

// TestByLot is promises 5.2 to 5.4: what is shown of a program is read as it, shown again as it was, and stands in lines as the words ask for; its parts are shown as they are alone.
func TestByLot(t *testing.T) {
	l := newLot(51)
	for done := 0; done < 3000; {
		p := l.program()
		if !tree.May(p) {
			t.Fatal("it may not be", p)
		}
		s, code := show.Program(p)
		if code == api.ErrLimit && s == "" {
			continue
		}
		done++
		q, wrong, at := parse.Program(s)
		if code != 0 || wrong != 0 || !tree.Same(p, q) {
			t.Fatalf("%s is read otherwise: %d at %d", s, wrong, at)
		}
		checkProgram(t, q, s, 0)
		words, _, _ := word.All(s)
		if want := laid(words); s != want {
			t.Fatalf("%s is not laid as %s", s, want)
		}
		for _, c := range p.Classes {
			checkAlone(t, s, c)
		}
	}
}

// checkAlone looks in s for what members are shown as alone, in their order.
func checkAlone(t *testing.T, s string, c api.Class) {
	t.Helper()
	var want strings.Builder
	for _, f := range c.Fields {
		want.WriteString(map[bool]string{true: "static "}[f.Static] + f.Type + " " + f.Name)
		for _, e := range f.Init {
			want.WriteString(" = " + show.Expr(e))
		}
		want.WriteString(";\n  ")
	}
	if !strings.Contains(s, want.String()[:max(0, want.Len()-2)]) {
		t.Fatalf("%s has not %s", s, want.String())
	}
	for _, m := range c.Methods {
		want.Reset()
		for _, x := range m.Body {
			want.WriteString(show.Stmt(x, 4))
		}
		if !strings.Contains(s, ") {\n"+want.String()+"  }\n") {
			t.Fatalf("%s has not %s", s, want.String())
		}
	}
}

// TestAsDeepAsMayBe is promise 5.4: at MaxDeep, whatever stands within one another, it is still read as it was.
func TestAsDeepAsMayBe(t *testing.T) {
	all := slots()
	check := func(p api.Program) {
		t.Helper()
		s, code := show.Program(p)
		if code == api.ErrLimit && len(s) == 0 {
			return
		}
		if q, wrong, at := parse.Program(s); code != 0 || wrong != 0 || !tree.Same(p, q) {
			t.Fatalf("%s: %d, is read otherwise: %d at %d", s, code, wrong, at)
		}
	}
	for _, one := range all {
		for _, two := range all {
			e := of(api.ESelf, "f", "")
			for i := range api.MaxDeep - 1 {
				e = []slot{one, two}[i%2].with(e)
				if i+2 < api.MaxDeep {
					s := on(api.SPrint, e)
					for range api.MaxDeep - (i + 2) {
						s = api.Stmt{Kind: api.SWhile, E: []api.Expr{name("a")}, A: []api.Stmt{s}}
					}
					check(ofCtor(s))
					check(ofCtor(on(api.SSuper, e)))
				}
			}
			check(ofCtor(on(api.SPrint, e)))
			check(api.Program{Classes: []api.Class{{Name: "A", Fields: []api.Field{{Type: "int", Name: "a", Init: []api.Expr{e}}}}}})
			// Within super ( ) as much may be open as 4.1 reads, and one more: that is shown all the same.
			checkProgram(t, ofCtor(on(api.SSuper, e)), "class A {\n  A() {\n    super("+show.Expr(e)+");\n  }\n}\n", 0)
			checkProgram(t, ofCtor(on(api.SPrint, one.with(e))), "", api.ErrArg)
			checkProgram(t, ofCtor(api.Stmt{Kind: api.SIf, E: []api.Expr{name("a")}, A: []api.Stmt{on(api.SPrint, e)}}), "", api.ErrArg)
		}
	}
}
