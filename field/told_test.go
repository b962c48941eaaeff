package field_test

import (
	"math/rand"
	"reflect"
	"slices"
	"strconv"
	"testing"

	"changeling/api"
	"changeling/field"
	"changeling/kin"
	"changeling/tree"
)

// What follows tells chapter 7 once more, as slowly and as near to its words as can be.

func toldRight(p api.Program) bool {
	code, _ := kin.Check(p)
	return code == 0
}

func toldOwn(p api.Program, class, name string) int {
	if !toldRight(p) {
		return -1
	}
	for _, c := range p.Classes {
		if c.Name == class {
			return slices.IndexFunc(c.Fields, func(f api.Field) bool { return f.Name == name })
		}
	}
	return -1
}

func toldFind(p api.Program, class, name string) (api.Target, bool) {
	for _, s := range kin.Chain(p, class) {
		if nth := toldOwn(p, s, name); nth >= 0 {
			return api.Target{Own: s, Nth: nth}, true
		}
	}
	return api.Target{}, false
}

func toldGet(p api.Program, t api.Target) (api.Field, bool) {
	if !toldRight(p) {
		return api.Field{}, false
	}
	for _, c := range p.Classes {
		for i, f := range c.Fields {
			if (t == api.Target{Own: c.Name, Nth: i}) {
				return f, true
			}
		}
	}
	return api.Field{}, false
}

func toldAll(p api.Program, class string) []api.Target {
	var l []api.Target
	for _, s := range kin.Chain(p, class) {
		var own []api.Target
		for i := 0; ; i++ {
			f, is := toldGet(p, api.Target{Own: s, Nth: i})
			if !is {
				break
			}
			if !f.Static {
				own = append(own, api.Target{Own: s, Nth: i})
			}
		}
		l = slices.Concat(own, l)
	}
	return l
}

// toldHides is promise 7.3: what the class itself has stands ahead of what would else be found.
func toldHides(p api.Program, class, name string) bool {
	if toldOwn(p, class, name) < 0 {
		return false
	}
	for _, s := range kin.Chain(p, class)[1:] {
		if toldOwn(p, s, name) >= 0 {
			return true
		}
	}
	return false
}

func toldCheck(p api.Program) (int, int) {
	if !toldRight(p) {
		return api.ErrArg, 0
	}
	for i, c := range p.Classes {
		for k, f := range c.Fields {
			for _, g := range c.Fields[:k] {
				if f.Name == g.Name {
					return api.ErrTwice, i
				}
			}
		}
		for _, f := range c.Fields {
			if !kin.Type(p, f.Type) {
				return api.ErrClass, i
			}
		}
	}
	return api.OK, 0
}

// holdAgainst asks all calls of p, with all those classes and names, and holds them against what is told above.
func holdAgainst(t *testing.T, p api.Program, classes, names []string) {
	t.Helper()
	before := tree.Bare(p)
	code, at := toldCheck(p)
	checkCheck(t, p, code, at)
	for _, class := range classes {
		checkAll(t, p, class, toldAll(p, class)...)
		for i := -1; i < 4; i++ {
			f, is := field.Get(p, api.Target{Own: class, Nth: i})
			if want, wantIs := toldGet(p, api.Target{Own: class, Nth: i}); is != wantIs || !reflect.DeepEqual(f, want) {
				t.Fatalf("Get of %q, %d in %v is %v, %v", class, i, p, f, is)
			}
		}
		for _, name := range names {
			want, wantIs := toldFind(p, class, name)
			checkFind(t, p, class, name, wantIs, want)
			if field.Own(p, class, name) != toldOwn(p, class, name) || field.Hides(p, class, name) != toldHides(p, class, name) {
				t.Fatalf("of %q, %q in %v", class, name, p)
			}
			checkOrder(t, p, class, name)
		}
	}
	if !reflect.DeepEqual(before, tree.Bare(p)) {
		t.Fatalf("%v is changed", p)
	}
}

// checkOrder is promise 7.3: a class that hides a field has it, and its Super finds another one.
func checkOrder(t *testing.T, p api.Program, class, name string) {
	t.Helper()
	here, is := field.Find(p, class, name)
	if own := field.Own(p, class, name); own >= 0 && (!is || here != api.Target{Own: class, Nth: own}) {
		t.Fatalf("Find and Own of %q, %q in %v", class, name, p)
	}
	above, isAbove := api.Target{}, false
	if l := kin.Chain(p, class); len(l) > 1 {
		above, isAbove = field.Find(p, l[1], name)
	}
	if field.Hides(p, class, name) != (is && isAbove && here != above) {
		t.Fatalf("Hides and Find of %q, %q in %v", class, name, p)
	}
	if is && isAbove && here == above && field.Own(p, class, name) >= 0 {
		t.Fatalf("the Super of %q finds %q there, in %v", class, name, p)
	}
}

// TestSmallOnes is promises 7.1 to 7.3: three classes, each with each Super and each list of fields out of some.
func TestSmallOnes(t *testing.T) {
	classes := []string{"A", "B", "C", "", "Exception"}
	lists := [][]api.Field{
		nil,
		{{Type: "A", Name: "y", Static: true}, {Type: "B", Name: "x"}},
		{{Type: "int", Name: "y"}, {Type: "int", Name: "x", Static: true}, {Type: "int", Name: "z"}},
		{{Type: "None", Name: "x"}},
		{{Type: "int", Name: "x"}, {Type: "void", Name: "x"}},
	}
	ways := len(classes) * len(lists)
	for i := range ways * ways * ways {
		var p api.Program
		for _, s := range classes[:3] {
			p.Classes = append(p.Classes, api.Class{Name: s, Super: classes[i%len(classes)], Fields: lists[i/len(classes)%len(lists)]})
			i /= ways
		}
		holdAgainst(t, p, classes, []string{"x", "y", "a"})
	}
}

// TestLot is promises 7.1 to 7.3: programs by lot, with classes from few to more than there may be, and fields with few names.
func TestLot(t *testing.T) {
	lot := rand.New(rand.NewSource(7))
	right := 0
	for range 300 {
		p, classes := lotOf(lot)
		names := []string{"a", "b", "c", "d", "e", "f", "g", "h", "A", ""}
		lot.Shuffle(len(classes), func(i, j int) { classes[i], classes[j] = classes[j], classes[i] })
		holdAgainst(t, p, classes[:min(len(classes), 12)], names)
		if code, _ := field.Check(p); code == api.OK {
			right++
		}
	}
	if right < 100 || right > 250 {
		t.Fatal("the lot is one-sided:", right)
	}
}

// lotOf makes a program in which, mostly, nothing is wrong, and tells texts that are its classes, or might be.
func lotOf(lot *rand.Rand) (api.Program, []string) {
	many := 1 + lot.Intn(40)
	classes := slices.Concat(bases, []string{"", "int", "None"})
	for i := range many {
		classes = append(classes, "C"+strconv.Itoa(i))
	}
	own := classes[len(classes)-many:]
	types := slices.Concat(own, bases, []string{"int", "boolean", "String"})
	wild := lot.Intn(2) * lot.Intn(60) // of a thousand
	pick := func(l []string) string {
		if lot.Intn(1000) < wild {
			l = classes
		}
		return l[lot.Intn(len(l))]
	}
	var p api.Program
	for i, s := range own {
		c := api.Class{Name: s}
		if lot.Intn(8) > 0 {
			c.Super = pick(append(slices.Clone(own[i+1:]), "ZeroFault"))
		}
		for _, k := range lot.Perm(8)[:lot.Intn(5)] {
			c.Fields = append(c.Fields, api.Field{Static: lot.Intn(3) == 0, Type: pick(types), Name: string(rune('a' + k))})
			if lot.Intn(2000) < wild {
				c.Fields = append(c.Fields, c.Fields[0])
			}
		}
		p.Classes = append(p.Classes, c)
	}
	lot.Shuffle(len(p.Classes), func(i, j int) { p.Classes[i], p.Classes[j] = p.Classes[j], p.Classes[i] })
	return p, classes
}
