package field_test

import (
	"reflect"
	"runtime/debug"
	"slices"
	"strconv"
	"strings"
	"testing"
	"unsafe"

	"changeling/api"
	"changeling/field"
)

// memory is the memory of all lists and texts within a value, but of empty ones.
func memory(v reflect.Value) (lists, texts []unsafe.Pointer) {
	switch v.Kind() {
	case reflect.String:
		if v.Len() > 0 {
			texts = append(texts, unsafe.Pointer(unsafe.StringData(v.String())))
		}
	case reflect.Struct:
		for i := range v.NumField() {
			l, s := memory(v.Field(i))
			lists, texts = append(lists, l...), append(texts, s...)
		}
	case reflect.Slice:
		if v.Cap() > 0 {
			lists = append(lists, v.UnsafePointer())
		}
		for i := range v.Len() {
			l, s := memory(v.Index(i))
			lists, texts = append(lists, l...), append(texts, s...)
		}
	}
	return lists, texts
}

// rich is a program of three classes in a row, with full fields, all of whose texts have memory of their own.
func rich() api.Program {
	names := []string{strings.Clone("Apple"), strings.Clone("Berry"), strings.Clone("Cherry")}
	plain := api.Field{Type: strings.Clone("int"), Name: strings.Clone("plain"), Init: []api.Expr{}}
	p := api.Program{Classes: []api.Class{{Name: names[0], Super: names[1]}, {Name: names[1], Super: names[2]}, {Name: names[2]}}}
	for i := range p.Classes {
		p.Classes[i].Fields = []api.Field{full("first"), plain, full("third")}
	}
	return p
}

// TestOwnMemory is rule 2 of the document: nothing handed in is changed, and nothing answered shares memory with it.
func TestOwnMemory(t *testing.T) {
	p := rich()
	givenLists, givenTexts := memory(reflect.ValueOf(p))
	for range 2 {
		for _, c := range p.Classes {
			for i := range c.Fields {
				f, _ := field.Get(p, api.Target{Own: c.Name, Nth: i})
				found, _ := field.Find(p, c.Name, c.Fields[i].Name)
				checkApart(t, givenLists, givenTexts, f)
				checkApart(t, givenLists, givenTexts, found)
				wipe(f.Init)
			}
			all := field.All(p, c.Name)
			checkApart(t, givenLists, givenTexts, all)
			clear(all)
			field.Hides(p, c.Name, "plain")
			field.Own(p, c.Name, "plain")
		}
		field.Check(p)
		if !reflect.DeepEqual(p, rich()) {
			t.Fatal("what was handed in is changed")
		}
	}
}

// checkApart holds that an answer has none of the memory that was given, and no list twice.
func checkApart(t *testing.T, givenLists, givenTexts []unsafe.Pointer, answer any) {
	t.Helper()
	lists, texts := memory(reflect.ValueOf(answer))
	for i, l := range lists {
		if slices.Contains(givenLists, l) || slices.Contains(lists[:i], l) {
			t.Fatalf("a list of %v is shared", answer)
		}
	}
	for _, s := range texts {
		if slices.Contains(givenTexts, s) {
			t.Fatalf("a text of %v is shared", answer)
		}
	}
}

// wipe writes over all lists of expressions, up to their capacity.
func wipe(l []api.Expr) {
	for _, e := range l {
		wipe(e.L)
	}
	clear(l[:cap(l)])
}

// TestAnyDepth is rule 1 of the document: an Init may be deeper than the stack, and wider than any limit.
func TestAnyDepth(t *testing.T) {
	defer debug.SetMaxStack(debug.SetMaxStack(1 << 20))
	const many = 1 << 17
	e := api.Expr{Kind: api.ENull}
	for i := range many {
		e = api.Expr{Kind: api.EUn, Num: int32(i), L: []api.Expr{e}}
	}
	p := of("A: int x, int y")
	p.Classes[0].Fields[0].Init = []api.Expr{e}
	p.Classes[0].Fields[1].Init = make([]api.Expr, many)
	deep, is := field.Get(p, api.Target{Own: "A"})
	wide, isWide := field.Get(p, api.Target{Own: "A", Nth: 1})
	if !is || !isWide || len(wide.Init) != many {
		t.Fatal(is, isWide, len(wide.Init))
	}
	l := deep.Init
	for i := range many {
		if len(l) != 1 || l[0].Kind != api.EUn || int(l[0].Num) != many-1-i {
			t.Fatal(i)
		}
		l = l[0].L
	}
	if len(l) != 1 || l[0].Kind != api.ENull || len(l[0].L) != 0 {
		t.Fatal("the innermost one")
	}
}

// TestNoEnd is rule 1 of the document: what holds itself does not keep the calls that do not ask for it.
func TestNoEnd(t *testing.T) {
	p := of("A: int x, int y", "B A: int x")
	round := make([]api.Expr, 1)
	round[0] = api.Expr{Kind: api.EUn, L: round}
	p.Classes[0].Fields[0].Init = round
	checkCheck(t, p, api.OK, 0)
	checkFind(t, p, "B", "y", true, api.Target{Own: "A", Nth: 1})
	checkAll(t, p, "A", api.Target{Own: "A"}, api.Target{Own: "A", Nth: 1})
	if f, is := field.Get(p, api.Target{Own: "A", Nth: 1}); !is || f.Name != "y" || !field.Hides(p, "B", "x") || field.Own(p, "A", "y") != 1 {
		t.Fatal(f, is)
	}
}

// nth is a name for each number.
func nth(i int) string { return "C" + strconv.Itoa(i) }

// TestManyClasses is rule 1 of the document: all calls end on very many classes in a row, each with fields of its own.
func TestManyClasses(t *testing.T) {
	const many = 200000
	var p api.Program
	for i := range many {
		p.Classes = append(p.Classes, api.Class{Name: nth(i), Super: nth(i + 1), Fields: []api.Field{{Type: nth(many - 1 - i), Name: "x"}, {Static: true, Type: "int", Name: nth(i)}}})
	}
	p.Classes[many-1].Super = "ZeroFault"
	checkCheck(t, p, api.OK, 0)
	checkFind(t, p, nth(0), nth(many-1), true, api.Target{Own: nth(many - 1), Nth: 1})
	checkFind(t, p, nth(0), "x", true, api.Target{Own: nth(0)})
	checkFind(t, p, nth(1), nth(0), false, api.Target{})
	l := field.All(p, nth(0))
	if len(l) != many || l[0].Own != nth(many-1) || l[many-1].Own != nth(0) || l[many/2].Nth != 0 {
		t.Fatal(len(l))
	}
	if !field.Hides(p, nth(0), "x") || field.Hides(p, nth(many-1), "x") || field.Hides(p, nth(0), nth(0)) || field.Own(p, nth(many-1), "x") != 0 {
		t.Fatal("Hides")
	}
	if f, is := field.Get(p, api.Target{Own: nth(many - 1)}); !is || f.Type != nth(0) {
		t.Fatal(f, is)
	}
	p.Classes[many-1].Fields[0].Type = nth(many)
	checkCheck(t, p, api.ErrClass, many-1)
	p.Classes[many-2].Fields[1].Name = "x"
	checkCheck(t, p, api.ErrTwice, many-2)
	p.Classes[many-1].Super = nth(0)
	checkCheck(t, p, api.ErrArg, 0)
	checkAll(t, p, nth(0))
}

// TestManyFields is rule 1 of the document: all calls end on a class with very many fields.
func TestManyFields(t *testing.T) {
	const many = 200000
	p := of("B A", "A")
	own := make([]api.Field, many)
	for i := range own {
		own[i] = api.Field{Static: i%2 == 0, Type: "ZeroFault", Name: nth(i)}
	}
	p.Classes[1].Fields = own
	checkCheck(t, p, api.OK, 0)
	checkFind(t, p, "B", nth(many-1), true, api.Target{Own: "A", Nth: many - 1})
	if l := field.All(p, "B"); len(l) != many/2 || l[many/2-1].Nth != many-1 {
		t.Fatal(len(l))
	}
	own[many-1].Type = "None"
	checkCheck(t, p, api.ErrClass, 1)
	own[many-1].Name = nth(many / 2)
	checkCheck(t, p, api.ErrTwice, 1)
}
