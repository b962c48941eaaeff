package heap_test

import (
	"reflect"
	"slices"
	"strconv"
	"testing"
	"unsafe"

	"changeling/api"
	"changeling/heap"
	"changeling/tree"
)

// soft are texts whose bytes may change afterwards, as no plain text's may.
type soft [][]byte

func (l *soft) text(s string) string {
	if s == "" {
		return ""
	}
	b := []byte(s)
	*l = append(*l, b)
	return unsafe.String(&b[0], len(b))
}

// spoil writes over all of them.
func (l soft) spoil() {
	for _, b := range l {
		for i := range b {
			b[i] = '?'
		}
	}
}

// softened is p, all of whose texts are soft.
func softened(p api.Program, l *soft) api.Program {
	for i := range p.Classes {
		c := &p.Classes[i]
		c.Name, c.Super = l.text(c.Name), l.text(c.Super)
		for k := range c.Fields {
			f := &c.Fields[k]
			f.Type, f.Name = l.text(f.Type), l.text(f.Name)
		}
	}
	return p
}

const family = "class A { int x; static String s; B o; boolean b = true; } class B extends A { boolean x; String t; static int u; } class C extends NullFault { int x; }"

// TestNotKept is rule 2 of the document: nothing that was handed in is kept, so that it may change afterwards.
func TestNotKept(t *testing.T) {
	var l soft
	p := softened(read(t, family), &l)
	h := heap.New(p)
	for i := range p.Classes {
		clear(p.Classes[i].Fields)
	}
	clear(p.Classes)
	l.spoil()
	l = nil
	v, _ := h.Make(l.text("B"))
	at := l.text("B")
	if !h.Set(v, target(at, 1), words(l.text("word"))) || !h.Set(none, target(l.text("A"), 1), words(l.text("more"))) {
		t.Fatal("Set")
	}
	if _, is := h.Make(l.text("ZeroFault")); !is || h.Get(v, target(l.text("A"), 0)) != number(0) {
		t.Fatal("Make")
	}
	l.spoil()
	if h.Class(v) != "B" || h.Class(object(2)) != "ZeroFault" {
		t.Fatal(h.Class(v), h.Class(object(2)))
	}
	checkGet(t, h, v, target("B", 1), words("word"))
	checkGet(t, h, none, target("A", 1), words("more"))
	checkGet(t, h, v, target("B", 0), api.Value{Kind: api.VBool})
	checkGet(t, h, v, target("A", 0), number(0))
	checkNoField(t, h, v, target("A", 1))
	checkGet(t, h, checkMake(t, h, "B", 3), target("A", 2), object(0))
	checkGet(t, h, checkMake(t, h, "C", 4), target("C", 0), number(0))
	checkNoMake(t, h, "?")
}

// TestNotChanged is rule 2 of the document: what is handed in stays as it is.
func TestNotChanged(t *testing.T) {
	p := read(t, family)
	h := heap.New(p)
	for range api.MaxObjects {
		v, _ := h.Make("B")
		h.Set(v, target("A", 0), number(3))
		h.Set(none, target("A", 1), words("x"))
		h.Get(v, target("A", 3))
		h.Class(v)
	}
	if !reflect.DeepEqual(p, read(t, family)) || !tree.Same(p, read(t, family)) {
		t.Fatal("changed")
	}
}

// TestOwnMemory is rule 2 of the document: an answer shares no memory with what was handed in, nor with another answer.
func TestOwnMemory(t *testing.T) {
	var seen []*byte
	apart := func(s string) {
		t.Helper()
		at := unsafe.StringData(s)
		if slices.Contains(seen, at) {
			t.Fatalf("the memory of %q is shared", s)
		}
		seen = append(seen, at)
	}
	var l soft
	p := softened(read(t, family), &l)
	class, word := l.text("B"), l.text("word")
	for _, c := range p.Classes {
		apart(c.Name)
	}
	apart(class)
	apart(word)
	h := heap.New(p)
	v, _ := h.Make(class)
	h.Set(v, target("B", 1), words(word))
	h.Set(v, target("A", 0), api.Value{Kind: api.VInt, S: word})
	h.Set(none, target("A", 1), words(word))
	for range 3 {
		apart(h.Class(v))
		apart(h.Get(v, target("B", 1)).S)
		apart(h.Get(v, target("A", 0)).S)
		apart(h.Get(none, target("A", 1)).S)
	}
}

// TestNoEnd is rule 1 of the document: an Init or a Body that holds itself does not keep the calls, which ask for none.
func TestNoEnd(t *testing.T) {
	p := read(t, family)
	round := make([]api.Expr, 1)
	round[0] = api.Expr{Kind: api.EUn, L: round}
	ring := make([]api.Stmt, 1)
	ring[0] = api.Stmt{Kind: api.SIf, E: round, A: ring}
	p.Classes[0].Fields[0].Init = round
	p.Classes[0].Methods = []api.Method{{Type: "void", Name: "f", Body: ring}}
	h := heap.New(p)
	checkSet(t, h, checkMake(t, h, "B", 1), target("A", 0), number(1))
}

// nth is a name for each number.
func nth(i int) string { return "C" + strconv.Itoa(i) }

// TestManyClasses is rule 1 of the document: all calls end on very many classes in a row, with as many objects as there may be.
func TestManyClasses(t *testing.T) {
	const many = 100000
	var p api.Program
	for i := range many {
		p.Classes = append(p.Classes, api.Class{Name: nth(i), Super: nth(i + 1), Fields: []api.Field{{Type: nth(many - 1 - i), Name: "x"}, {Static: true, Type: "int", Name: "y"}}})
	}
	p.Classes[many-1].Super = "ZeroFault"
	h := heap.New(p)
	for n := range int32(api.MaxObjects) {
		checkMake(t, h, nth(int(n)%5*(many/5)), n+1)
		checkNoMake(t, h, nth(many))
	}
	v, w := object(1), object(api.MaxObjects)
	for i := range many {
		checkGet(t, h, v, target(nth(i), 0), object(0))
		checkSet(t, h, v, target(nth(i), 0), number(int32(i)))
		checkSet(t, h, none, target(nth(i), 1), number(int32(-i)))
	}
	for i := range many {
		checkGet(t, h, v, target(nth(i), 0), number(int32(i)))
		checkGet(t, h, none, target(nth(i), 1), number(int32(-i)))
		want := object(0)
		if i < many/5*4 {
			want = none
		}
		checkGet(t, h, w, target(nth(i), 0), want)
	}
	p.Classes[many-1].Super = nth(0)
	if heap.New(p) != nil {
		t.Fatal("a ring")
	}
}

// TestManyFields is rule 1 of the document: all calls end on a class with very many fields, with as many objects as there may be.
func TestManyFields(t *testing.T) {
	const many = 200000
	p := read(t, "class B extends A { } class A { }")
	for i := range many {
		p.Classes[1].Fields = append(p.Classes[1].Fields, api.Field{Static: i%2 == 0, Type: "String", Name: nth(i)})
	}
	h := heap.New(p)
	for n := range int32(api.MaxObjects) {
		v := checkMake(t, h, "AB"[n%2:n%2+1], n+1)
		for _, i := range []int{1, many / 2, many - 1} {
			checkGet(t, h, v, target("A", i|1), words(""))
			checkSet(t, h, v, target("A", i|1), number(n))
			checkNoField(t, h, v, target("A", i&^1))
		}
	}
	for i := 0; i < many; i += 2 {
		checkSet(t, h, none, target("A", i), number(int32(i)))
		checkSet(t, h, object(1), target("A", i+1), number(int32(i)))
	}
	for i := 0; i < many; i += 2 {
		checkGet(t, h, none, target("A", i), number(int32(i)))
		checkGet(t, h, object(1), target("A", i+1), number(int32(i)))
	}
	for n := int32(1); n < api.MaxObjects; n++ {
		checkGet(t, h, object(n+1), target("A", many-1), number(n))
	}
}
