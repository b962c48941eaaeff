package heap_test

import (
	"math"
	"strings"
	"testing"

	"changeling/api"
	"changeling/field"
	"changeling/heap"
	"changeling/parse"
)

// read is the program of a text.
func read(t *testing.T, s string) api.Program {
	t.Helper()
	p, code, at := parse.Program(s)
	if code != api.OK {
		t.Fatal(s, code, at)
	}
	return p
}

func target(own string, nth int) api.Target { return api.Target{Own: own, Nth: nth} }

func number(n int32) api.Value { return api.Value{Kind: api.VInt, N: n} }

func words(s string) api.Value { return api.Value{Kind: api.VText, S: s} }

func object(n int32) api.Value { return api.Value{Kind: api.VRef, N: n} }

// none is the zero Value, which stands for no object.
var none api.Value

// bases are the classes that are in no program.
var bases = []string{"Exception", "NullFault", "CastFault", "ZeroFault", "RangeFault"}

// newHeap is a heap of the program of a text.
func newHeap(t *testing.T, s string) *heap.Heap {
	t.Helper()
	h := heap.New(read(t, s))
	if h == nil {
		t.Fatal(s)
	}
	return h
}

// checkMake makes an object, which is to be the one of that number.
func checkMake(t *testing.T, h *heap.Heap, class string, n int32) api.Value {
	t.Helper()
	v, is := h.Make(class)
	if !is || v != object(n) || h.Len() != int(n) || h.Class(v) != class {
		t.Fatalf("Make of %q is %v, %v, the %dth one, of class %q", class, v, is, h.Len(), h.Class(v))
	}
	return v
}

// checkNoMake holds that there is no new object of that class, and that there are as many as there were.
func checkNoMake(t *testing.T, h *heap.Heap, class string) {
	t.Helper()
	n := h.Len()
	if v, is := h.Make(class); is || v != none || h.Len() != n {
		t.Fatalf("Make of %q is %v, %v, the %dth one", class, v, is, h.Len())
	}
}

func checkGet(t *testing.T, h *heap.Heap, v api.Value, at api.Target, want api.Value) {
	t.Helper()
	if x := h.Get(v, at); x != want {
		t.Fatalf("Get of %v, %v is %v, not %v", v, at, x, want)
	}
}

// checkSet sets a field that is there, and then it is as it was set.
func checkSet(t *testing.T, h *heap.Heap, v api.Value, at api.Target, x api.Value) {
	t.Helper()
	if !h.Set(v, at, x) {
		t.Fatalf("Set of %v, %v is false", v, at)
	}
	checkGet(t, h, v, at, x)
}

// checkNoField holds that v has no such field, whatever is to be set to it.
func checkNoField(t *testing.T, h *heap.Heap, v api.Value, at api.Target) {
	t.Helper()
	for _, x := range []api.Value{number(7), none} {
		if h.Set(v, at, x) {
			t.Fatalf("Set of %v, %v is true", v, at)
		}
		checkGet(t, h, v, at, none)
	}
}

// oddPlaces are of no class's fields.
func oddPlaces(many int) []int {
	return []int{-1, -2, -many, many, many + 1, math.MaxInt, math.MinInt, 1 << 32, -1 << 32, 1<<32 + 1}
}

// oddValues are those that stand for nothing in a heap of that many objects.
func oddValues(many int32) []api.Value {
	l := []api.Value{object(0), object(-1), object(many + 1), object(math.MinInt32), object(math.MaxInt32), words(""), words("A")}
	for _, kind := range []int{api.VInt, api.VBool, api.VText, -api.VRef, -1, 5, 256, 1<<32 + api.VRef, 1 << 32, math.MinInt, math.MaxInt} {
		l = append(l, api.Value{Kind: kind}, api.Value{Kind: kind, N: 1}, api.Value{Kind: kind, N: 1, S: "A"})
	}
	return l
}

// TestZero is promise 15.1, by hand.
func TestZero(t *testing.T) {
	for s, kind := range map[string]int{"int": api.VInt, "boolean": api.VBool, "String": api.VText} {
		if v := heap.Zero(s); v != (api.Value{Kind: kind}) {
			t.Fatal(s, v)
		}
	}
	for _, s := range append([]string{"", "A", "void", "null", "Int", "INT", "int ", " int", "in", "integer", "bool", "Boolean", "string", "Strings", "\xff", "int\x00", "VInt"}, bases...) {
		if v := heap.Zero(s); v != object(0) {
			t.Fatal(s, v)
		}
	}
}

// TestNew is promise 15.1: a heap without objects, of what field.Check finds right, whatever else is wrong.
func TestNew(t *testing.T) {
	many := api.Program{}
	for i := range 2 * api.MaxClasses {
		many.Classes = append(many.Classes, api.Class{Name: strings.Repeat("A", i+1)})
	}
	for _, p := range []api.Program{
		{},
		{Classes: []api.Class{}},
		read(t, "class A { int x; static B y; } class B extends A { String x; }"),
		read(t, "class A { int x = true; int f() { return g(); } int f() { } None h(None a) { } } class B extends A { boolean f() { } }"),
		{Classes: []api.Class{{Name: ""}, {Name: "not a name", Fields: []api.Field{{Type: "not a name"}}}}},
		many,
	} {
		h := heap.New(p)
		if h == nil || h.Len() != 0 || h.Class(object(1)) != "" {
			t.Fatal(p, h)
		}
	}
}

// TestNoNew is promise 15.1: nil, for each fault that field.Check tells.
func TestNoNew(t *testing.T) {
	for s, want := range map[string]int{
		"class A { int x; } class B { int x; int y; boolean x; }":              api.ErrTwice,
		"class A { int x; static None y; }":                                    api.ErrClass,
		"class A { int x; } class B { } class A { }":                           api.ErrArg,
		"class ZeroFault { int x; }":                                           api.ErrArg,
		"class A { int x; } class B extends None { }":                          api.ErrArg,
		"class A { int x; } class B extends C { } class C extends B { int x;}": api.ErrArg,
	} {
		p := read(t, s)
		if code, _ := field.Check(p); code != want || heap.New(p) != nil {
			t.Fatal(s, code)
		}
	}
	if heap.New(api.Program{Classes: []api.Class{{Name: "A", Fields: []api.Field{{Type: "void", Name: "x"}}}}}) != nil {
		t.Fatal("void")
	}
}

// TestMake is promise 15.1: an object more, its number from 1 on, of each class, of base ones, too; false of no class.
func TestMake(t *testing.T) {
	h := newHeap(t, "class A { int x; } class B extends C { } class C extends CastFault { }")
	wrong := []string{"", "D", "a", "A ", "AA", "int", "boolean", "String", "void", "null", "this", "x", "Exceptions", "exception", "\xff", "A\x00", "Object", "Fault"}
	n := int32(0)
	for range 3 {
		for _, s := range append([]string{"C", "A", "B", "A"}, bases...) {
			n++
			checkMake(t, h, s, n)
			for _, s := range wrong {
				checkNoMake(t, h, s)
			}
		}
	}
	for i := range n {
		if s := h.Class(object(i + 1)); s != append([]string{"C", "A", "B", "A"}, bases...)[i%9] {
			t.Fatal(i, s)
		}
	}
	empty := heap.New(api.Program{})
	checkMake(t, empty, "NullFault", 1)
	checkNoMake(t, empty, "A")
	checkNoMake(t, empty, "")
}

// TestMakeOddNames is promise 15.1: a class is one, whatever its name is.
func TestMakeOddNames(t *testing.T) {
	p := api.Program{Classes: []api.Class{{Name: "int"}, {Name: ""}, {Name: "null"}, {Name: "\xff", Fields: []api.Field{{Type: "int", Name: "x"}, {Type: "null", Name: "y"}}}}}
	h := heap.New(p)
	for i, c := range p.Classes {
		checkMake(t, h, c.Name, int32(i+1))
	}
	checkNoMake(t, h, "\ufffd")
	checkGet(t, h, object(4), target("\xff", 0), number(0))
	checkGet(t, h, object(4), target("\xff", 1), object(0))
}

// TestMaxObjects is promise 15.1: 200 objects, whatever they are of, and no more.
func TestMaxObjects(t *testing.T) {
	if api.MaxObjects != 200 {
		t.Fatal(api.MaxObjects)
	}
	for _, classes := range [][]string{{"A"}, {"B"}, {"A", "B", "NullFault"}, {"Exception"}} {
		h := newHeap(t, "class A { int x; static int s; } class B extends A { int y; }")
		for n := range int32(200) {
			checkMake(t, h, classes[int(n)%len(classes)], n+1)
		}
		for range 3 {
			for _, s := range []string{"A", "B", "NullFault", "None", ""} {
				checkNoMake(t, h, s)
			}
		}
		for n := range int32(200) {
			class := classes[int(n)%len(classes)]
			if h.Class(object(n+1)) != class {
				t.Fatal(n, class)
			}
			if class == "A" || class == "B" {
				checkSet(t, h, object(n+1), target("A", 0), number(n))
			}
		}
		checkSet(t, h, none, target("A", 1), number(200))
		if h.Class(object(201)) != "" || h.Len() != 200 {
			t.Fatal(h.Len())
		}
	}
	// What is not made is not counted.
	h := newHeap(t, "class A { }")
	for n := range int32(200) {
		checkNoMake(t, h, "B")
		checkMake(t, h, "A", n+1)
	}
}

// TestClass is promise 15.1: an object's class; "" of null, and of what is none, whatever else the Value has.
func TestClass(t *testing.T) {
	h := newHeap(t, "class A { } class B extends A { }")
	checkMake(t, h, "B", 1)
	checkMake(t, h, "A", 2)
	for v, want := range map[api.Value]string{object(1): "B", object(2): "A", {Kind: api.VRef, N: 1, S: "A"}: "B", {}: "", {N: 1}: "", {N: 1, S: "A"}: ""} {
		if s := h.Class(v); s != want {
			t.Fatal(v, s)
		}
	}
	for _, v := range oddValues(2) {
		if s := h.Class(v); s != "" {
			t.Fatal(v, s)
		}
	}
}

// TestFirst is promise 15.1: a new object has each of field.All, with Zero of its Type, and nothing else.
func TestFirst(t *testing.T) {
	p := read(t, "class C extends B { B b; int i; static int s; } class A { int i; static boolean s; boolean t; String x; A a; } class B extends A { static int i; Exception e; } class D { int i; } class E extends ZeroFault { String x; }")
	h := heap.New(p)
	fields := map[string][]api.Target{
		"A":         {target("A", 0), target("A", 2), target("A", 3), target("A", 4)},
		"D":         {target("D", 0)},
		"E":         {target("E", 0)},
		"ZeroFault": {},
	}
	fields["B"] = append([]api.Target{target("B", 1)}, fields["A"]...)
	fields["C"] = append([]api.Target{target("C", 0), target("C", 1)}, fields["B"]...)
	zeros := map[api.Target]api.Value{
		target("A", 0): number(0), target("A", 2): {Kind: api.VBool}, target("A", 3): words(""), target("A", 4): object(0),
		target("B", 1): object(0), target("C", 0): object(0), target("C", 1): number(0), target("D", 0): number(0), target("E", 0): words(""),
	}
	for class, l := range fields {
		v, is := h.Make(class)
		if !is || h.Class(v) != class {
			t.Fatal(class)
		}
		has := map[api.Target]bool{}
		for _, at := range l {
			has[at] = true
			checkGet(t, h, v, at, zeros[at])
		}
		for _, own := range append([]string{"A", "B", "C", "D", "E", "F", "", "int"}, bases...) {
			for nth := -2; nth < 6; nth++ {
				if !has[target(own, nth)] {
					checkNoField(t, h, v, target(own, nth))
				}
			}
		}
		for _, nth := range oddPlaces(5) {
			checkNoField(t, h, v, target("A", nth))
		}
		for _, at := range l {
			checkSet(t, h, v, at, number(5))
		}
	}
}

// TestHidden is promise 15.2: each class of a Chain has its own field of one name, Static ones, too.
func TestHidden(t *testing.T) {
	h := newHeap(t, "class A { int x; int y; static int z; } class B extends A { int x; static int y; int z; } class C extends B { boolean x; int y; static int z; }")
	v, w := checkMake(t, h, "C", 1), checkMake(t, h, "C", 2)
	places := map[api.Target]api.Value{}
	n := int32(0)
	for _, own := range []string{"A", "B", "C"} {
		for nth := range 3 {
			at := target(own, nth)
			n++
			if at == target("A", 2) || at == target("B", 1) || at == target("C", 2) {
				checkNoField(t, h, v, at)
				checkSet(t, h, none, at, number(n))
			} else {
				checkNoField(t, h, none, at)
				checkSet(t, h, v, at, number(n))
			}
			places[at] = number(n)
		}
	}
	for at, want := range places {
		shared, own := h.Get(none, at), h.Get(v, at)
		if shared == none && own != want || own == none && shared != want || shared == none && own == none {
			t.Fatal(at, shared, own)
		}
		if x := h.Get(w, at); x.N != 0 {
			t.Fatal("the other object", at, x)
		}
	}
	// An object of the Super has none of those that hide its own.
	u := checkMake(t, h, "B", 3)
	checkGet(t, h, u, target("A", 0), number(0))
	checkGet(t, h, u, target("B", 0), number(0))
	checkNoField(t, h, u, target("C", 0))
	checkNoField(t, h, u, target("C", 1))
}

// TestStatic is promise 15.1: a Static field is there once, where it is declared, for a Value of Kind 0 alone.
func TestStatic(t *testing.T) {
	h := newHeap(t, "class A { static int i; int x; static boolean b; static String s; static A a; } class B extends A { static int i; int y; static Exception e; }")
	zeros := map[api.Target]api.Value{
		target("A", 0): number(0), target("A", 2): {Kind: api.VBool}, target("A", 3): words(""), target("A", 4): object(0),
		target("B", 0): number(0), target("B", 2): object(0),
	}
	v := checkMake(t, h, "B", 1)
	for at, zero := range zeros {
		for _, nobody := range []api.Value{{}, {N: 1}, {N: -1, S: "A"}, {S: "B"}} {
			checkGet(t, h, nobody, at, zero)
		}
		checkNoField(t, h, v, at)
		for _, x := range oddValues(1) {
			checkNoField(t, h, x, at)
		}
	}
	for i, own := range []string{"A", "B", "C", "", "Exception"} {
		for nth := -2; nth < 7; nth++ {
			if _, is := zeros[target(own, nth)]; !is {
				checkNoField(t, h, none, target(own, nth))
				checkNoField(t, h, api.Value{N: 1, S: own}, target(own, nth))
			}
		}
		for _, nth := range oddPlaces(5 - 2*i) {
			checkNoField(t, h, none, target(own, nth))
		}
	}
	checkSet(t, h, none, target("A", 0), number(3))
	checkSet(t, h, api.Value{N: 4, S: "B"}, target("B", 0), number(5))
	checkGet(t, h, api.Value{N: 9}, target("A", 0), number(3))
	checkGet(t, h, none, target("B", 0), number(5))
	checkGet(t, h, v, target("A", 0), none)
}

// TestSet is promise 15.1: what is set is there as it was, whatever it is, until it is set again; each object and each field has its own.
func TestSet(t *testing.T) {
	h := newHeap(t, "class A { int x; int y; static int s; } class B extends A { A x; }")
	l := []api.Value{checkMake(t, h, "A", 1), checkMake(t, h, "A", 2), checkMake(t, h, "B", 3), none}
	fields := []api.Target{target("A", 0), target("A", 0), target("A", 0), target("A", 2)}
	want := make([]api.Value, len(l))
	for i, v := range l {
		want[i] = number(int32(10 + i))
		checkSet(t, h, v, fields[i], want[i])
	}
	for _, x := range []api.Value{number(1), number(math.MinInt32), {Kind: api.VBool, N: 1}, words("é\xff\x00"), object(2), object(0), object(-9), none, {Kind: 77, N: -1, S: "a"}, {Kind: api.VInt, N: 4, S: "four"}, {N: 1}, {Kind: math.MinInt, S: strings.Repeat("x", 2*api.MaxText)}, number(0)} {
		for i, v := range l {
			want[i] = x
			checkSet(t, h, v, fields[i], x)
			for k, w := range l {
				checkGet(t, h, w, fields[k], want[k])
			}
			checkGet(t, h, l[0], target("A", 1), number(0))
			checkGet(t, h, l[2], target("B", 0), object(0))
		}
	}
	if h.Len() != 3 {
		t.Fatal(h.Len())
	}
}

// TestOddValues is promise 15.1: what is no object has no fields, and where nothing is set nothing has changed.
func TestOddValues(t *testing.T) {
	h := newHeap(t, "class A { int x; static int s; }")
	for _, v := range append(oddValues(0), object(1)) {
		checkNoField(t, h, v, target("A", 0))
		checkNoField(t, h, v, target("A", 1))
	}
	v := checkMake(t, h, "A", 1)
	checkSet(t, h, v, target("A", 0), number(1))
	checkSet(t, h, none, target("A", 1), number(2))
	for _, w := range oddValues(1) {
		checkNoField(t, h, w, target("A", 0))
		checkNoField(t, h, w, target("A", 1))
	}
	checkGet(t, h, v, target("A", 0), number(1))
	checkGet(t, h, none, target("A", 1), number(2))
	// The text of a VRef is not asked.
	checkSet(t, h, api.Value{Kind: api.VRef, N: 1, S: "B"}, target("A", 0), number(3))
	checkGet(t, h, v, target("A", 0), number(3))
}

// TestTwoHeaps is promise 15.1 and rule 3 of the document: each heap has objects and Static fields of its own.
func TestTwoHeaps(t *testing.T) {
	p := read(t, "class A { int x; static int s; }")
	h, g := heap.New(p), heap.New(p)
	v := checkMake(t, h, "A", 1)
	checkSet(t, h, v, target("A", 0), number(1))
	checkSet(t, h, none, target("A", 1), number(2))
	if g.Len() != 0 || g.Class(v) != "" {
		t.Fatal(g.Len())
	}
	checkNoField(t, g, v, target("A", 0))
	checkGet(t, g, none, target("A", 1), number(0))
	checkGet(t, g, checkMake(t, g, "A", 1), target("A", 0), number(0))
}

// TestNil is promise 15.1: of nil, nothing.
func TestNil(t *testing.T) {
	var h *heap.Heap
	for range 2 {
		for _, s := range append([]string{"A", ""}, bases...) {
			if v, is := h.Make(s); is || v != none || h.Len() != 0 {
				t.Fatal(s, v, is)
			}
			for _, v := range append(oddValues(1), none, object(1)) {
				for nth := -1; nth < 2; nth++ {
					checkNoField(t, h, v, target(s, nth))
				}
				if h.Class(v) != "" {
					t.Fatal(v)
				}
			}
		}
	}
}

// TestNoNewCalled is rule 1 of the document: a Heap that New has not made is as that of no classes.
func TestNoNewCalled(t *testing.T) {
	var h heap.Heap
	checkNoMake(t, &h, "A")
	checkNoField(t, &h, none, target("A", 0))
	v := checkMake(t, &h, "NullFault", 1)
	for _, s := range []string{"NullFault", "Exception", "A", ""} {
		checkNoField(t, &h, v, target(s, 0))
		checkNoField(t, &h, none, target(s, 0))
	}
}
