package over_test

import (
	"reflect"
	"slices"
	"strconv"
	"strings"
	"testing"
	"unsafe"

	"changeling/api"
	"changeling/over"
	"changeling/tree"
)

// apart tells whether s has memory of its own, beside that of those texts.
func apart(s string, given ...string) bool {
	return !slices.ContainsFunc(given, func(g string) bool { return unsafe.StringData(s) == unsafe.StringData(g) })
}

// rich is a program whose classes' names are the ones that are given, each in several places.
func rich(a, b string) api.Program {
	p := of("A: f A, f B, new A, new B", "B A: f A B, f B A")
	p.Classes[0].Name, p.Classes[1].Name, p.Classes[1].Super = a, b, a
	for _, c := range p.Classes {
		for _, m := range c.Methods {
			for i := range m.Params {
				m.Params[i].Type = map[string]string{"A": a, "B": b}[m.Params[i].Type]
			}
		}
	}
	return p
}

// TestOwnMemory is rule 2 of the document: nothing handed in is changed, and nothing answered shares memory with it.
func TestOwnMemory(t *testing.T) {
	a, b, asked := strings.Clone("A"), strings.Clone("B"), strings.Clone("B")
	p := rich(a, b)
	l := []api.Target{{Own: a, Nth: 1}, {Own: b, Nth: 0}, {Own: a, Nth: 0}, {Own: b, Nth: -1}}
	types := [][]string{{b}, {"null"}, {a, b}, {b, b}, {}}
	wantL, wantTypes := slices.Clone(l), [][]string{{"B"}, {"null"}, {"A", "B"}, {"B", "B"}, {}}
	for range 2 {
		for _, args := range types {
			best, _ := over.Best(p, l, args)
			call, _ := over.Call(p, asked, "f", args)
			made, _ := over.New(p, asked, args)
			own, _ := over.New(p, asked[:1], args)
			base, _ := over.New(p, "ZeroFault", args)
			for _, x := range []api.Target{best, call, made, own, base} {
				if x.Own != "" && !apart(x.Own, a, b, asked, "ZeroFault") {
					t.Fatal("the memory of", x, "is shared")
				}
			}
			for _, m := range p.Classes[0].Methods {
				over.Fits(p, m, args)
				over.Above(p, m, p.Classes[1].Methods[0])
			}
		}
		if !reflect.DeepEqual(p, rich("A", "B")) || !slices.Equal(l, wantL) || !reflect.DeepEqual(types, wantTypes) {
			t.Fatal("what was handed in is changed")
		}
	}
}

// TestSpare is rule 2 of the document: what stands behind the end of a list is not written to.
func TestSpare(t *testing.T) {
	p := rich("A", "B")
	l := each("A 0, A 1, B 0, B 1")
	types := []string{"B", "B", "A", "A"}
	for i := range len(l) {
		for k := range len(types) {
			over.Best(p, l[:i], types[:k])
			over.Call(p, "B", "f", types[:k])
			over.New(p, "A", types[:k])
			over.Fits(p, p.Classes[1].Methods[0], types[:k])
		}
	}
	if !slices.Equal(l, each("A 0, A 1, B 0, B 1")) || !slices.Equal(types, []string{"B", "B", "A", "A"}) {
		t.Fatal("a list is changed behind its end")
	}
}

// TestNoEnd is rule 1 of the document: what holds itself does not keep the calls, which do not ask for a Body.
func TestNoEnd(t *testing.T) {
	p := of("A: f A, f B, new, new A", "B A")
	round := make([]api.Stmt, 1)
	round[0] = api.Stmt{Kind: api.SWhile, A: round}
	for i := range p.Classes[0].Methods {
		p.Classes[0].Methods[i].Body = round
	}
	checkBest(t, p, "A 0, A 1, A 3", "null", "A 1", 0)
	checkCall(t, p, "B", "f", "B", "A 1", 0)
	checkNew(t, p, "A", "", "A 2", 0)
	if m := p.Classes[0].Methods; !over.Fits(p, m[0], []string{"B"}) || !over.Above(p, m[1], m[0]) {
		t.Fatal("Fits")
	}
}

// nth is a name for each number.
func nth(i int) string { return "C" + strconv.Itoa(i) }

// row is a program of that many classes, each below the next one, and one more with a method of each as its parameter (and as a second one, if two).
func row(many int, two bool) api.Program {
	var p api.Program
	methods := make([]api.Method, many)
	for i := range many {
		p.Classes = append(p.Classes, api.Class{Name: nth(i), Super: nth(i + 1)})
		methods[i] = api.Method{Type: "void", Name: "f", Params: []api.Param{{Type: nth(i)}}}
		if two {
			methods[i].Params = append(methods[i].Params, api.Param{Type: nth(many - 1 - i)})
		}
	}
	p.Classes[many-1].Super = ""
	p.Classes = append(p.Classes, api.Class{Name: "L", Methods: methods})
	return p
}

// TestManyClasses is rule 1 of the document: all calls end on very many classes in a row, and as many methods, in their order up and down.
func TestManyClasses(t *testing.T) {
	const many = 100000
	p := row(many, false)
	for range 2 {
		for _, types := range []string{"null", nth(0), nth(many / 2), nth(many - 1)} {
			got, code := over.Call(p, "L", "f", args(types))
			want := types
			if types == "null" {
				want = nth(0)
			}
			if code != 0 || p.Classes[many].Methods[got.Nth].Params[0].Type != want {
				t.Fatal(types, got, code)
			}
		}
		checkCall(t, p, "L", "f", "L", "", api.ErrMethod)
		if !over.Fits(p, mk("f "+nth(many-1)), args(nth(0))) || !over.Above(p, mk("f "+nth(0)), mk("f "+nth(many-1))) {
			t.Fatal("Fits")
		}
		checkNew(t, p, nth(0), "", nth(0)+" -1", 0)
		slices.Reverse(p.Classes[many].Methods)
	}
	p.Classes[many-1].Super = nth(0)
	checkCall(t, p, "L", "f", "null", "", api.ErrMethod)
}

// TestManyVague is rule 1 of the document: very many methods, none of which is Above all.
func TestManyVague(t *testing.T) {
	const many = 100000
	p := row(many, true)
	checkCall(t, p, "L", "f", "null null", "", api.ErrVague)
	checkCall(t, p, "L", "f", nth(0)+" "+nth(0), "", api.ErrVague)
	checkCall(t, p, "L", "f", nth(0)+" "+nth(many-1), "L 0", 0)
	apart := row(many, false)
	for i := range many {
		apart.Classes[i].Super = ""
	}
	checkCall(t, apart, "L", "f", "null", "", api.ErrVague)
	got, code := over.Call(apart, "L", "f", []string{nth(many - 1)})
	if code != 0 || got.Nth != many-1 {
		t.Fatal(got, code)
	}
}

// TestManyTargets is rule 1 of the document: very many Targets, and very many parameters and arguments.
func TestManyTargets(t *testing.T) {
	const many = 200000
	p := of("A: f A, f B, f", "B A")
	var l []api.Target
	for range many {
		l = append(l, to("A 0"), to("B -1"), to("A 2"), to("None 0"))
	}
	l = append(l, to("A 1"), to("A 0"))
	for types, want := range map[string]string{"A": "A 0", "B": "A 1", "null": "A 1", "": "B -1"} {
		got, code := over.Best(p, l, args(types))
		checkOne(t, types, got, code, want, 0)
	}
	wide := api.Method{Type: "void", Name: "g"}
	types := make([]string, many)
	for i := range types {
		wide.Params = append(wide.Params, api.Param{Type: "A"})
		types[i] = []string{"A", "B", "null"}[i%3]
	}
	p.Classes[0].Methods = append(p.Classes[0].Methods, wide)
	got, code := over.Call(p, "B", "g", types)
	checkOne(t, "wide", got, code, "A 3", 0)
	if !over.Fits(p, wide, types) || !over.Above(p, wide, wide) {
		t.Fatal("Fits")
	}
	types[many-1] = "int"
	got, code = over.Call(p, "B", "g", types)
	checkOne(t, "wide", got, code, "", api.ErrMethod)
	if over.Fits(p, wide, types) || over.Fits(p, wide, types[:many-1]) {
		t.Fatal("Fits")
	}
}

// TestFull is rule 1 of the document: as many methods of one Name as a program may have, all of which Fit.
func TestFull(t *testing.T) {
	var p api.Program
	for i := range api.MaxClasses {
		c := api.Class{Name: nth(i), Super: nth(i - 1)}
		for k := range api.MaxMembers {
			m := api.Method{Type: "void", Name: "f"}
			for _, n := range []int{i, k, k / api.MaxClasses, i + k, i + 2*k, i + 3*k} {
				m.Params = append(m.Params, api.Param{Type: nth(n % api.MaxClasses), Name: "a" + strconv.Itoa(len(m.Params))})
			}
			c.Methods = append(c.Methods, m)
		}
		p.Classes = append(p.Classes, c)
	}
	p.Classes[0].Super = ""
	end := nth(api.MaxClasses - 1)
	for i := range api.MaxParams {
		p.Classes[api.MaxClasses-1].Methods[9].Params[i].Type = end
	}
	if !tree.May(p) {
		t.Fatal("there may be no such program")
	}
	for _, types := range []string{"null", end} {
		checkCall(t, p, end, "f", strings.Repeat(types+" ", api.MaxParams), end+" 9", 0)
	}
	p.Classes[api.MaxClasses-1].Methods[9].Params[3].Type = nth(0)
	checkCall(t, p, end, "f", strings.Repeat("null ", api.MaxParams), "", api.ErrVague)
}
