package heap_test

import (
	"math/rand"
	"slices"
	"strconv"
	"testing"

	"changeling/api"
	"changeling/field"
	"changeling/heap"
	"changeling/kin"
)

// What follows tells chapter 15 once more, as near to its words as can be.

type toldObject struct {
	class  string
	values map[api.Target]api.Value
}

type toldHeap struct {
	p       api.Program
	objects []toldObject
	statics map[api.Target]api.Value
}

func toldZero(s string) api.Value {
	kinds := map[string]int{"int": api.VInt, "boolean": api.VBool, "String": api.VText}
	if kind, is := kinds[s]; is {
		return api.Value{Kind: kind}
	}
	return api.Value{Kind: api.VRef}
}

func toldNew(p api.Program) *toldHeap {
	if code, _ := field.Check(p); code != 0 {
		return nil
	}
	h := &toldHeap{p: p, statics: map[api.Target]api.Value{}}
	for _, c := range p.Classes {
		for i, f := range c.Fields {
			if f.Static {
				h.statics[api.Target{Own: c.Name, Nth: i}] = toldZero(f.Type)
			}
		}
	}
	return h
}

func (h *toldHeap) make(class string) (api.Value, bool) {
	if len(h.objects) == 200 || kin.Find(h.p, class) < 0 && !kin.Base(class) {
		return api.Value{}, false
	}
	o := toldObject{class: class, values: map[api.Target]api.Value{}}
	for _, t := range field.All(h.p, class) {
		f, _ := field.Get(h.p, t)
		o.values[t] = toldZero(f.Type)
	}
	h.objects = append(h.objects, o)
	return api.Value{Kind: api.VRef, N: int32(len(h.objects))}, true
}

// object is the one that v is; of no class and without fields, if it is none.
func (h *toldHeap) object(v api.Value) toldObject {
	for i, o := range h.objects {
		if v.Kind == api.VRef && v.N == int32(i+1) {
			return o
		}
	}
	return toldObject{}
}

func (h *toldHeap) fields(v api.Value) map[api.Target]api.Value {
	if v.Kind == 0 {
		return h.statics
	}
	return h.object(v).values
}

func (h *toldHeap) set(v api.Value, t api.Target, x api.Value) bool {
	l := h.fields(v)
	_, is := l[t]
	if is {
		l[t] = x
	}
	return is
}

// pool is what is asked of two heaps of one program.
type pool struct {
	classes []string
	targets []api.Target
}

func poolOf(p api.Program) pool {
	var l pool
	l.classes = slices.Concat([]string{"", "int", "None"}, bases)
	for _, c := range p.Classes {
		l.classes = append(l.classes, c.Name)
	}
	for _, c := range l.classes {
		n := 0
		if i := kin.Find(p, c); i >= 0 {
			n = len(p.Classes[i].Fields)
		}
		for nth := -1; nth <= n; nth++ {
			l.targets = append(l.targets, api.Target{Own: c, Nth: nth})
		}
	}
	return l
}

// valueOf is one by lot: mostly an object, or none.
func valueOf(lot *rand.Rand, many int) api.Value {
	switch lot.Intn(8) {
	case 0:
		return api.Value{Kind: lot.Intn(7) - 1, N: int32(lot.Intn(5) - 1), S: strconv.Itoa(lot.Intn(3))}
	case 1, 2:
		return api.Value{}
	}
	return api.Value{Kind: api.VRef, N: int32(lot.Intn(many+3) - 1)}
}

// holdAgainst lets both heaps of p go on alike, for so many steps, and holds their answers against each other.
func holdAgainst(t *testing.T, lot *rand.Rand, p api.Program, steps int) {
	t.Helper()
	h, told := heap.New(p), toldNew(p)
	if h == nil || told == nil {
		if h != nil || told != nil {
			t.Fatal(p, h)
		}
		return
	}
	l := poolOf(p)
	makes := 1 + lot.Intn(4)
	for range steps {
		if lot.Intn(5) < makes {
			class := l.classes[lot.Intn(len(l.classes))]
			v, is := h.Make(class)
			if want, wantIs := told.make(class); v != want || is != wantIs {
				t.Fatalf("Make of %q in %v is %v, %v", class, p, v, is)
			}
			continue
		}
		v, at, x := valueOf(lot, h.Len()), l.targets[lot.Intn(len(l.targets))], valueOf(lot, h.Len())
		if h.Get(v, at) != told.fields(v)[at] || h.Set(v, at, x) != told.set(v, at, x) || h.Get(v, at) != told.fields(v)[at] || h.Class(v) != told.object(v).class || h.Len() != len(told.objects) {
			t.Fatalf("of %v, %v in %v", v, at, p)
		}
	}
	holdAll(t, h, told, l)
}

// holdAll holds all fields of all objects, and the Static ones, against each other.
func holdAll(t *testing.T, h *heap.Heap, told *toldHeap, l pool) {
	t.Helper()
	all := []api.Value{{}, {Kind: api.VInt, N: 1}}
	for n := range len(told.objects) + 2 {
		all = append(all, api.Value{Kind: api.VRef, N: int32(n)})
	}
	for _, v := range all {
		if h.Class(v) != told.object(v).class {
			t.Fatalf("of %v in %v", v, told.p)
		}
		for _, at := range l.targets {
			if h.Get(v, at) != told.fields(v)[at] {
				t.Fatalf("of %v, %v in %v", v, at, told.p)
			}
		}
	}
}

// TestSmallOnes is promises 15.1 and 15.2: three classes, each with each Super and each list of fields out of some.
func TestSmallOnes(t *testing.T) {
	lists := [][]api.Field{
		nil,
		{{Type: "A", Name: "y", Static: true}, {Type: "B", Name: "x"}},
		{{Type: "int", Name: "y"}, {Type: "String", Name: "x", Static: true}, {Type: "boolean", Name: "z"}},
		{{Type: "None", Name: "x"}},
	}
	lot := rand.New(rand.NewSource(15))
	for _, last := range []string{"C", ""} {
		classes := []string{"A", "B", last}
		supers := []string{"A", "B", last, "", "Exception"}
		ways := len(supers) * len(lists)
		for i := range ways * ways * ways {
			var p api.Program
			for _, s := range classes {
				p.Classes = append(p.Classes, api.Class{Name: s, Super: supers[i%len(supers)], Fields: lists[i/len(supers)%len(lists)]})
				i /= ways
			}
			holdAgainst(t, lot, p, 40)
		}
	}
}

// TestLot is promises 15.1 and 15.2: programs by lot, in some of which a class is wrong, and long ways in heaps that become full.
func TestLot(t *testing.T) {
	lot := rand.New(rand.NewSource(151))
	right := 0
	for range 200 {
		p := lotOf(lot)
		if heap.New(p) != nil {
			right++
		}
		holdAgainst(t, lot, p, 50+lot.Intn(450))
	}
	if right < 100 || right > 190 {
		t.Fatal("the lot is one-sided:", right)
	}
}

// lotOf makes a program in which, mostly, nothing is wrong; few names make many of its fields hidden.
func lotOf(lot *rand.Rand) api.Program {
	many := 1 + lot.Intn(20)
	types := slices.Concat(bases, []string{"int", "boolean", "String", "int", "boolean", "String"})
	for i := range many {
		types = append(types, "C"+strconv.Itoa(i))
	}
	var p api.Program
	for i := range many {
		c := api.Class{Name: "C" + strconv.Itoa(i)}
		if i > 0 && lot.Intn(8) > 0 {
			c.Super = "C" + strconv.Itoa(max(0, i-1-lot.Intn(4)))
		}
		for _, k := range lot.Perm(6)[:lot.Intn(5)] {
			c.Fields = append(c.Fields, api.Field{Static: lot.Intn(3) == 0, Type: types[lot.Intn(len(types))], Name: string(rune('a' + k))})
		}
		p.Classes = append(p.Classes, c)
	}
	if lot.Intn(4) == 0 {
		spoil(lot, &p.Classes[lot.Intn(many)])
	}
	lot.Shuffle(many, func(i, j int) { p.Classes[i], p.Classes[j] = p.Classes[j], p.Classes[i] })
	return p
}

// spoil makes something wrong in c, or odd.
func spoil(lot *rand.Rand, c *api.Class) {
	switch lot.Intn(5) {
	case 0:
		c.Name = ""
	case 1:
		c.Name = bases[lot.Intn(len(bases))]
	case 2:
		c.Super = "None"
	case 3:
		c.Fields = append(c.Fields, api.Field{Type: "void", Name: "z"})
	case 4:
		c.Fields = append(c.Fields, api.Field{Type: "int", Name: "a"}, api.Field{Type: "int", Name: "a"})
	}
}
