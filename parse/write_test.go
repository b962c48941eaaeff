package parse_test

import (
	"math/rand"
	"reflect"
	"slices"
	"strconv"
	"strings"
	"testing"
	"unsafe"

	"changeling/api"
	"changeling/parse"
	"changeling/sign"
	"changeling/tree"
)

// maker makes programs by lot, and writes them.
type maker struct {
	*rand.Rand
	words   []string
	misfits []int // the words with which statements begin that can't be where they are
}

func (m *maker) pick(l ...string) string { return l[m.Intn(len(l))] }
func (m *maker) name() string            { return m.pick("a", "b", "c1", "isA", "nameOfTwentyBytes123") }
func (m *maker) class() string           { return m.pick("A", "B", "Exception", "ClassOfTwentyBytes12") }
func (m *maker) typed() string           { return m.pick("int", "boolean", "String", "A", "B") }

// upTo makes at most n things.
func upTo[T any](m *maker, n int, one func() T) []T {
	var l []T
	for range m.Intn(n + 1) {
		l = append(l, one())
	}
	return l
}

// levels are the signs between expressions, the loosest first.
var levels = [][]string{{"||"}, {"&&"}, {"==", "!="}, {"<", "<="}, {"+", "-"}, {"*", "/", "%", "@"}}

func (m *maker) expr(deep int) api.Expr {
	kind := 1 + m.Intn(18)
	if deep <= 1 {
		kind = []int{api.EInt, api.EBool, api.EText, api.ENull, api.EThis, api.EName, api.ESuperName, api.EStatic, api.ESelf, api.ENew}[m.Intn(10)]
	}
	e := api.Expr{Kind: kind}
	within := func(n int) {
		for range n {
			e.L = append(e.L, m.expr(deep-1))
		}
	}
	args := func() { within(min(m.Intn(4), max(0, deep-1))) }
	switch kind {
	case api.EInt:
		e.Num = []int32{0, 1, 9999, 10000, 1<<31 - 1, m.Int31()}[m.Intn(6)]
	case api.EBool:
		e.Num = m.Int31n(2)
	case api.EText:
		e.Text = m.pick("", "t", "\"", "\\\n", "+", "(", ")", "a", "A", "is", "é\uFFFD", "// no comment")
	case api.EName, api.ESuperName:
		e.Name = m.name()
	case api.EField:
		e.Name = m.name()
		within(1)
	case api.EStatic, api.EStatCall:
		e.Type, e.Name = m.class(), m.name()
		if kind == api.EStatCall {
			args()
		}
	case api.ECall:
		e.Name = m.name()
		within(1)
		args()
	case api.ESelf, api.ESuperCall:
		e.Name = m.name()
		args()
	case api.ENew:
		e.Type = m.class()
		args()
	case api.ECast, api.EIs:
		e.Type = m.class()
		within(1)
	case api.EBin:
		e.Name = m.pick(levels[m.Intn(len(levels))]...)
		within(2)
	case api.EUn:
		e.Name = m.pick("-", "!", "#")
		within(1)
	}
	return e
}

// someExpr makes one that is neither very deep nor very great.
func (m *maker) someExpr() api.Expr {
	for {
		if e := m.expr(1 + m.Intn(6)); tree.Expr(e) < 60 {
			return e
		}
	}
}

func (m *maker) exprs() []api.Expr { return []api.Expr{m.someExpr()} }

// ofKinds makes an expression that is of one of the kinds, or of any one now and then.
func (m *maker) ofKinds(kinds ...int) api.Expr {
	for {
		if e := m.expr(1 + m.Intn(3)); slices.Contains(kinds, e.Kind) || m.Intn(500) == 0 {
			return e
		}
	}
}

func (m *maker) stmt(deep int) api.Stmt {
	kind := 1 + m.Intn(11)
	if kind == api.SSuper && m.Intn(30) > 0 || deep <= 1 && (kind == api.SIf || kind == api.SWhile || kind == api.STry) {
		kind = api.SReturn
	}
	block := func() []api.Stmt { return upTo(m, 3, func() api.Stmt { return m.stmt(deep - 1) }) }
	s := api.Stmt{Kind: kind}
	switch kind {
	case api.SVar:
		s.Type, s.Name, s.E = m.typed(), m.name(), m.exprs()
	case api.SAssign:
		s.E = []api.Expr{m.ofKinds(api.EName, api.EField, api.ESuperName, api.EStatic), m.someExpr()}
	case api.SExpr:
		s.E = []api.Expr{m.ofKinds(api.ECall, api.ESelf, api.ESuperCall, api.EStatCall, api.ENew)}
	case api.SIf:
		s.E, s.A, s.B = m.exprs(), block(), block()
	case api.SWhile:
		s.E, s.A = m.exprs(), block()
	case api.SReturn:
		s.E = upTo(m, 1, m.someExpr)
	case api.SPrint, api.SThrow:
		s.E = m.exprs()
	case api.SAssert:
		s.Num, s.E = m.Int31n(10000), m.exprs()
	case api.STry:
		s.Type, s.Name, s.A, s.B, s.C = m.class(), m.name(), block(), block(), block()
	case api.SSuper:
		s.E = upTo(m, 3, m.someExpr)
	}
	return s
}

func (m *maker) method() api.Method {
	x := api.Method{
		Params: upTo(m, 6, func() api.Param { return api.Param{Type: m.typed(), Name: m.name()} }),
		Body:   upTo(m, 5, func() api.Stmt { return m.stmt(3) }),
	}
	if m.Intn(3) == 0 {
		x.Ctor = true
		if m.Intn(2) == 0 {
			x.Body = append([]api.Stmt{{Kind: api.SSuper, E: upTo(m, 3, m.someExpr)}}, x.Body...)
		}
		return x
	}
	x.Static, x.Type, x.Name = m.Intn(2) == 0, m.pick("void", m.typed()), m.name()
	return x
}

func (m *maker) program() api.Program {
	return api.Program{Classes: upTo(m, 3, func() api.Class {
		return api.Class{
			Name: m.class(), Super: m.pick("", m.class()),
			Fields: upTo(m, 4, func() api.Field {
				return api.Field{Static: m.Intn(2) == 0, Type: m.typed(), Name: m.name(), Init: upTo(m, 1, m.someExpr)}
			}),
			Methods: upTo(m, 4, m.method),
		}
	})}
}

func (m *maker) put(words ...string) { m.words = append(m.words, words...) }

// level is how tight e is held together: 0 the loosest.
func level(e api.Expr) int {
	switch e.Kind {
	case api.EBin:
		return slices.IndexFunc(levels, func(l []string) bool { return slices.Contains(l, e.Name) })
	case api.EUn:
		return len(levels)
	case api.EField, api.ECall, api.ECast, api.EIs:
		return len(levels) + 1
	}
	return len(levels) + 2
}

// putExpr writes e where nothing looser than least can stand but in brackets; those are there now and then without need, too.
func (m *maker) putExpr(e api.Expr, least int) {
	if level(e) < least || m.Intn(9) == 0 {
		m.put("(")
		m.putExpr(e, 0)
		m.put(")")
		return
	}
	l := level(e)
	switch e.Kind {
	case api.EInt:
		m.put(m.pick("", "", "0", "000000000000") + strconv.Itoa(int(e.Num)))
	case api.EBool:
		m.put([]string{"false", "true"}[e.Num])
	case api.EText:
		m.put(sign.Quote(e.Text))
	case api.ENull:
		m.put("null")
	case api.EThis:
		m.put("this")
	case api.EName:
		m.put(e.Name)
	case api.ESuperName:
		m.put("super", ".", e.Name)
	case api.EStatic:
		m.put(e.Type, "::", e.Name)
	case api.EField:
		m.putExpr(e.L[0], l)
		m.put(".", e.Name)
	case api.ECall:
		m.putExpr(e.L[0], l)
		m.put(".", e.Name)
		m.putArgs(e.L[1:])
	case api.ESelf:
		m.put(e.Name)
		m.putArgs(e.L)
	case api.ESuperCall:
		m.put("super", ".", e.Name)
		m.putArgs(e.L)
	case api.EStatCall:
		m.put(e.Type, "::", e.Name)
		m.putArgs(e.L)
	case api.ENew:
		m.put("new", e.Type)
		m.putArgs(e.L)
	case api.ECast, api.EIs:
		m.putExpr(e.L[0], l)
		m.put(map[int]string{api.ECast: "as", api.EIs: "is"}[e.Kind], e.Type)
	case api.EBin:
		m.putExpr(e.L[0], l)
		m.put(e.Name)
		m.putExpr(e.L[1], l+1)
	case api.EUn:
		m.put(e.Name)
		m.putExpr(e.L[0], l)
	}
}

func (m *maker) putArgs(l []api.Expr) {
	m.put("(")
	for i, e := range l {
		if i > 0 {
			m.put(",")
		}
		m.putExpr(e, 0)
	}
	m.put(")")
}

func (m *maker) putBlock(l []api.Stmt, ofCtor bool) {
	m.put("{")
	for i, s := range l {
		if misfit(s) || s.Kind == api.SSuper && !(ofCtor && i == 0) {
			m.misfits = append(m.misfits, len(m.words))
		}
		m.putStmt(s)
	}
	m.put("}")
}

// misfit tells whether s has on its left what 3.2 does not name.
func misfit(s api.Stmt) bool {
	switch s.Kind {
	case api.SAssign:
		return !slices.Contains([]int{api.EName, api.EField, api.ESuperName, api.EStatic}, s.E[0].Kind)
	case api.SExpr:
		return !slices.Contains([]int{api.ECall, api.ESelf, api.ESuperCall, api.EStatCall, api.ENew}, s.E[0].Kind)
	}
	return false
}

// putAll writes strings as they are, blocks and expressions.
func (m *maker) putAll(parts ...any) {
	for _, x := range parts {
		switch x := x.(type) {
		case string:
			m.put(x)
		case api.Expr:
			m.putExpr(x, 0)
		case []api.Stmt:
			m.putBlock(x, false)
		}
	}
}

func (m *maker) putStmt(s api.Stmt) {
	switch s.Kind {
	case api.SVar:
		m.putAll(s.Type, s.Name, "=", s.E[0], ";")
	case api.SAssign:
		m.putAll(s.E[0], "=", s.E[1], ";")
	case api.SExpr:
		m.putAll(s.E[0], ";")
	case api.SIf:
		m.putAll("if", "(", s.E[0], ")", s.A)
		if len(s.B) > 0 || m.Intn(2) == 0 {
			m.putAll("else", s.B)
		}
	case api.SWhile:
		m.putAll("while", "(", s.E[0], ")", s.A)
	case api.SReturn:
		m.putAll("return")
		for _, e := range s.E {
			m.putAll(e)
		}
		m.putAll(";")
	case api.SPrint:
		m.putAll("print", s.E[0], ";")
	case api.SAssert:
		m.putAll("assert", m.pick("", "", "00000")+strconv.Itoa(int(s.Num)), s.E[0], ";")
	case api.SThrow:
		m.putAll("throw", s.E[0], ";")
	case api.STry:
		m.putAll("try", s.A, "catch", "(", s.Type, s.Name, ")", s.B)
		if len(s.C) > 0 || m.Intn(2) == 0 {
			m.putAll("finally", s.C)
		}
	case api.SSuper:
		m.put("super")
		m.putArgs(s.E)
		m.put(";")
	}
}

func (m *maker) putClass(c api.Class) {
	m.put("class", c.Name)
	if c.Super != "" {
		m.put("extends", c.Super)
	}
	m.put("{")
	fields, methods := c.Fields, c.Methods
	for len(fields)+len(methods) > 0 {
		if len(methods) == 0 || len(fields) > 0 && m.Intn(2) == 0 {
			m.putField(fields[0])
			fields = fields[1:]
		} else {
			m.putMethod(c.Name, methods[0])
			methods = methods[1:]
		}
	}
	m.put("}")
}

func (m *maker) putField(f api.Field) {
	if f.Static {
		m.put("static")
	}
	m.put(f.Type, f.Name)
	for _, e := range f.Init {
		m.putAll("=", e)
	}
	m.put(";")
}

func (m *maker) putMethod(class string, x api.Method) {
	if x.Static {
		m.put("static")
	}
	if x.Ctor {
		m.put(class, "(")
	} else {
		m.put(x.Type, x.Name, "(")
	}
	for i, p := range x.Params {
		if i > 0 {
			m.put(",")
		}
		m.put(p.Type, p.Name)
	}
	m.put(")")
	m.putBlock(x.Body, x.Ctor)
}

// text is all that has been put, with gaps of all sorts, and where each word begins.
func (m *maker) text() (string, []int) {
	var b strings.Builder
	var places []int
	for _, w := range m.words {
		b.WriteString(m.pick("", " ", "\n", " \t", "\r\n", " // \" { (\n"))
		if s := b.String(); s != "" && !strings.Contains(" \n\t(){};,.", s[len(s)-1:]) && !strings.Contains("(){};,.", w) {
			b.WriteByte(' ')
		}
		places = append(places, b.Len())
		b.WriteString(w)
	}
	b.WriteString(m.pick("", "\n", " // }"))
	return b.String(), places
}

// same tells whether two values are the same in all their parts, a nil list and an empty one as well.
func same(a, b reflect.Value) bool {
	switch a.Kind() {
	case reflect.Struct:
		for i := range a.NumField() {
			if !same(a.Field(i), b.Field(i)) {
				return false
			}
		}
		return true
	case reflect.Slice:
		if a.Len() != b.Len() {
			return false
		}
		for i := range a.Len() {
			if !same(a.Index(i), b.Index(i)) {
				return false
			}
		}
		return true
	}
	return a.Interface() == b.Interface()
}

func alike[T any](a, b T) bool { return same(reflect.ValueOf(a), reflect.ValueOf(b)) }

// TestWrittenPrograms is promises 4.1 and 4.3: what is written is read, with each part where it was and no other one, or the first statement is told that can't be where it is.
func TestWrittenPrograms(t *testing.T) {
	m := &maker{Rand: rand.New(rand.NewSource(41))}
	read, told := 0, 0
	for read < 1500 || told < 300 {
		want := m.program()
		m.words, m.misfits = nil, nil
		for _, c := range want.Classes {
			m.putClass(c)
		}
		s, places := m.text()
		if len(s) > api.MaxSource {
			continue
		}
		p, code, at := parse.Program(s)
		if len(m.misfits) > 0 {
			told++
			if code != api.ErrParse || at != places[m.misfits[0]] || !alike(p, api.Program{}) {
				t.Fatalf("%s: %d at %d, not at %d", s, code, at, places[m.misfits[0]])
			}
			continue
		}
		read++
		if code != 0 || at != 0 || !alike(p, want) {
			t.Fatalf("%s: %d at %d", s, code, at)
		}
		checkNew(t, s, reflect.ValueOf(p))
	}
}

// TestWrittenExprs is promise 4.2: likewise of an expression alone, and of one with something behind it.
func TestWrittenExprs(t *testing.T) {
	m := &maker{Rand: rand.New(rand.NewSource(42))}
	for range 20000 {
		want := m.someExpr()
		m.words = nil
		m.putExpr(want, 0)
		s, places := m.text()
		e, code, at := parse.Expr(s)
		if code != 0 || at != 0 || !alike(e, want) {
			t.Fatalf("%s: %d at %d", s, code, at)
		}
		checkNew(t, s, reflect.ValueOf(e))
		m.put(m.pick("a", "A", "1", `"t"`, "{", "}", ")", ";", "=", ",", "::", "this", "new", "class", "!"))
		s, places = m.text()
		if e, code, at = parse.Expr(s); code != api.ErrParse || at != places[len(places)-1] || !alike(e, api.Expr{}) {
			t.Fatalf("%s: %d at %d", s, code, at)
		}
	}
}

// place is some memory, from a byte to a byte.
type place struct{ from, to uintptr }

// memory is where all lists within v are, with what room they have, and where all texts are.
func memory(v reflect.Value) (lists, texts []place) {
	switch v.Kind() {
	case reflect.String:
		at := uintptr(unsafe.Pointer(unsafe.StringData(v.String())))
		return nil, []place{{at, at + uintptr(v.Len())}}
	case reflect.Struct:
		for i := range v.NumField() {
			l, s := memory(v.Field(i))
			lists, texts = append(lists, l...), append(texts, s...)
		}
	case reflect.Slice:
		at := v.Pointer()
		lists = append(lists, place{at, at + uintptr(v.Cap())*v.Type().Elem().Size()})
		for i := range v.Len() {
			l, s := memory(v.Index(i))
			lists, texts = append(lists, l...), append(texts, s...)
		}
	}
	return lists, texts
}

// checkNew is the rule that what is answered is the caller's own: no text in it is a piece of s, and no two lists have room in common.
func checkNew(t *testing.T, s string, v reflect.Value) {
	t.Helper()
	lists, texts := memory(v)
	_, whole := memory(reflect.ValueOf(s))
	for _, x := range texts {
		if x.from < x.to && x.from < whole[0].to && whole[0].from < x.to {
			t.Fatal("a piece of the argument is in the answer")
		}
	}
	slices.SortFunc(lists, func(a, b place) int { return int(a.from) - int(b.from) })
	for i := 1; i < len(lists); i++ {
		if lists[i].from < lists[i].to && lists[i].from < lists[i-1].to {
			t.Fatal("two lists share their room")
		}
	}
}
