package kin_test

import (
	"math/rand"
	"reflect"
	"slices"
	"strconv"
	"testing"

	"changeling/api"
	"changeling/kin"
)

// What follows tells chapter 6 once more, as slowly and as near to its words as can be.

var baseNames = []string{"Exception", "NullFault", "CastFault", "ZeroFault", "RangeFault"}

func toldFind(p api.Program, name string) int {
	return slices.IndexFunc(p.Classes, func(c api.Class) bool { return c.Name == name })
}

func toldClass(p api.Program, name string) bool {
	return slices.Contains(baseNames, name) || toldFind(p, name) >= 0
}

func toldSuper(p api.Program, name string) string {
	switch {
	case name == "Exception" || !toldClass(p, name):
		return ""
	case slices.Contains(baseNames, name):
		return "Exception"
	}
	return p.Classes[toldFind(p, name)].Super
}

func toldChain(p api.Program, name string) []string {
	var l []string
	for toldClass(p, name) && !slices.Contains(l, name) {
		l = append(l, name)
		name = toldSuper(p, name)
	}
	return l
}

func toldType(p api.Program, t string) bool {
	return t == "int" || t == "boolean" || t == "String" || toldClass(p, t)
}

func toldSub(p api.Program, a, b string) bool {
	return a == b && (toldType(p, a) || a == "null") ||
		a == "null" && toldClass(p, b) ||
		slices.Contains(toldChain(p, a), b)
}

func toldKids(p api.Program, name string) []string {
	var l []string
	for _, c := range p.Classes {
		if slices.Contains(toldChain(p, c.Name)[1:], name) {
			l = append(l, c.Name)
		}
	}
	return l
}

// toldRound tells whether the way up from a class comes to no end.
func toldRound(p api.Program, name string) bool {
	for range len(p.Classes) + len(baseNames) + 1 {
		if !toldClass(p, name) {
			return false
		}
		name = toldSuper(p, name)
	}
	return true
}

func toldCheck(p api.Program) (int, int) {
	for i, c := range p.Classes {
		if slices.Contains(baseNames, c.Name) || toldFind(p, c.Name) < i {
			return api.ErrTwice, i
		}
	}
	for i, c := range p.Classes {
		if c.Super != "" && !toldClass(p, c.Super) {
			return api.ErrClass, i
		}
		if c.Super != "" && toldRound(p, c.Name) {
			return api.ErrCycle, i
		}
	}
	return api.OK, 0
}

// holdAgainst asks all calls of p, with all those names, and holds them against what is told above.
func holdAgainst(t *testing.T, p api.Program, names []string) {
	t.Helper()
	before := slices.Clone(p.Classes)
	wantCode, wantAt := toldCheck(p)
	checkCheck(t, p, wantCode, wantAt)
	for _, a := range names {
		checkChain(t, p, a, toldChain(p, a)...)
		checkKids(t, p, a, toldKids(p, a)...)
		if kin.Find(p, a) != toldFind(p, a) || kin.Super(p, a) != toldSuper(p, a) || kin.Type(p, a) != toldType(p, a) || kin.Base(a) != slices.Contains(baseNames, a) {
			t.Fatalf("of %q in %v", a, p)
		}
		for _, b := range names {
			if kin.Sub(p, a, b) != toldSub(p, a, b) {
				t.Fatalf("Sub of %q and %q in %v", a, b, p)
			}
		}
	}
	if wantCode == api.OK && kin.Find(p, "null") < 0 {
		checkOrder(t, p, names)
	}
	if !reflect.DeepEqual(p.Classes, before) {
		t.Fatalf("%v is changed", p)
	}
}

// checkOrder is promise 6.3, where no class is wrong, and none has null's name: each type stands for itself, none of two for each other, and who stands for one stands for all that it stands for.
func checkOrder(t *testing.T, p api.Program, names []string) {
	t.Helper()
	for _, a := range names {
		if kin.Type(p, a) != kin.Sub(p, a, a) && a != "null" {
			t.Fatalf("%q in %v", a, p)
		}
		for _, b := range names {
			if !kin.Sub(p, a, b) {
				continue
			}
			if a != b && kin.Sub(p, b, a) {
				t.Fatalf("%q and %q in %v", a, b, p)
			}
			for _, c := range names {
				if kin.Sub(p, b, c) && !kin.Sub(p, a, c) {
					t.Fatalf("%q, %q and %q in %v", a, b, c, p)
				}
			}
		}
	}
}

// eachProgram does something to each program of that many classes with those names and Supers.
func eachProgram(many int, names, supers []string, do func(api.Program)) {
	classes := make([]api.Class, many)
	var fill func(int)
	fill = func(i int) {
		if i == many {
			do(api.Program{Classes: classes})
			return
		}
		for _, n := range names {
			for _, s := range supers {
				classes[i] = api.Class{Name: n, Super: s}
				fill(i + 1)
			}
		}
	}
	fill(0)
}

// TestSmallOnes is promises 6.1 to 6.3: all programs of few classes, with all names, plain and odd.
func TestSmallOnes(t *testing.T) {
	all := append([]string{"A", "B", "C", "", "int", "null", "void"}, baseNames[:3]...)
	for many := range 3 {
		eachProgram(many, all, all, func(p api.Program) { holdAgainst(t, p, slices.Concat(all, []string{"String", "a"})) })
	}
	few := []string{"A", "B", "", "NullFault", "Exception"}
	eachProgram(3, few[:4], few, func(p api.Program) { holdAgainst(t, p, slices.Concat(few, []string{"null", "C"})) })
}

// TestAllSupers is promises 6.1 to 6.3: four classes, each with each Super: all ways that rows and rings can go.
func TestAllSupers(t *testing.T) {
	supers := []string{"A", "B", "C", "D", "", "None", "Exception"}
	for i := range len(supers) * len(supers) * len(supers) * len(supers) {
		var p api.Program
		for _, n := range supers[:4] {
			p.Classes = append(p.Classes, api.Class{Name: n, Super: supers[i%len(supers)]})
			i /= len(supers)
		}
		holdAgainst(t, p, slices.Concat(supers, []string{"null", "int", "CastFault"}))
	}
}

// TestLot is promises 6.1 to 6.3: programs by lot, with classes from few to more than there may be.
func TestLot(t *testing.T) {
	lot := rand.New(rand.NewSource(6))
	for range 400 {
		many := 1 + lot.Intn(80)
		names := slices.Concat(baseNames, []string{"", "null", "int"})
		for i := range many {
			names = append(names, "C"+strconv.Itoa(i))
		}
		p := lotOf(lot, many, names)
		asked := slices.Clone(names)
		lot.Shuffle(len(asked), func(i, j int) { asked[i], asked[j] = asked[j], asked[i] })
		holdAgainst(t, p, asked[:min(len(asked), 15)])
	}
}

// lotOf makes a program in which a class has, mostly, a name of its own, and a Super that comes behind it.
func lotOf(lot *rand.Rand, many int, names []string) api.Program {
	own := names[len(names)-many:]
	wild := lot.Intn(2) * lot.Intn(20) // of a hundred
	var p api.Program
	for i, n := range own {
		c := api.Class{Name: n}
		if lot.Intn(8) > 0 {
			c.Super = slices.Concat(own, []string{"Exception", "ZeroFault"})[i+1+lot.Intn(many+1-i)]
		}
		if lot.Intn(100) < wild {
			c.Super = names[lot.Intn(len(names))]
		}
		if lot.Intn(300) < wild {
			c.Name = names[lot.Intn(len(names))]
		}
		p.Classes = append(p.Classes, c)
	}
	lot.Shuffle(len(p.Classes), func(i, j int) { p.Classes[i], p.Classes[j] = p.Classes[j], p.Classes[i] })
	return p
}
