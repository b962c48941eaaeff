package method_test

import (
	"math/rand"
	"reflect"
	"slices"
	"strconv"
	"testing"

	"changeling/api"
	"changeling/kin"
	"changeling/method"
	"changeling/tree"
)

// What follows tells chapter 8 once more, as slowly and as near to its words as can be.

func toldRight(p api.Program) bool {
	code, _ := kin.Check(p)
	return code == 0
}

func toldTypes(m api.Method) []string {
	var l []string
	for _, q := range m.Params {
		l = append(l, q.Type)
	}
	return l
}

func toldSame(a, b api.Method) bool {
	return a.Name == b.Name && slices.Equal(toldTypes(a), toldTypes(b))
}

func toldGet(p api.Program, t api.Target) (api.Method, bool) {
	if toldRight(p) {
		for _, c := range p.Classes {
			for i, m := range c.Methods {
				if (t == api.Target{Own: c.Name, Nth: i}) {
					return m, true
				}
			}
		}
	}
	return api.Method{}, false
}

// toldOwn is all methods, or constructors, of the class itself.
func toldOwn(p api.Program, class string, ctors bool) []api.Target {
	var l []api.Target
	for i := 0; ; i++ {
		t := api.Target{Own: class, Nth: i}
		m, is := toldGet(p, t)
		if !is {
			return l
		}
		if m.Ctor == ctors {
			l = append(l, t)
		}
	}
}

// toldWith is all methods of those classes that are Same to m.
func toldWith(p api.Program, classes []string, m api.Method) []api.Target {
	var l []api.Target
	for _, s := range classes {
		for _, t := range toldOwn(p, s, false) {
			if x, _ := toldGet(p, t); toldSame(x, m) && !m.Ctor {
				l = append(l, t)
			}
		}
	}
	return l
}

func toldAll(p api.Program, class, name string) []api.Target {
	var l []api.Target
	for _, s := range kin.Chain(p, class) {
		for _, t := range toldOwn(p, s, false) {
			m, _ := toldGet(p, t)
			ahead := slices.ContainsFunc(l, func(t api.Target) bool {
				x, _ := toldGet(p, t)
				return toldSame(x, m)
			})
			if m.Name == name && !ahead {
				l = append(l, t)
			}
		}
	}
	return l
}

func toldCtors(p api.Program, class string) []api.Target {
	l := toldOwn(p, class, true)
	if len(l) == 0 && toldRight(p) && (kin.Base(class) || kin.Find(p, class) >= 0) {
		l = []api.Target{{Own: class, Nth: -1}}
	}
	return l
}

// toldFirst is the first one of a list, if there is one.
func toldFirst(l []api.Target) (api.Target, bool) {
	if len(l) == 0 {
		return api.Target{}, false
	}
	return l[0], true
}

// toldAbove is promise 8.3: whom t stands in for.
func toldAbove(p api.Program, t api.Target) (api.Target, bool) {
	m, is := toldGet(p, t)
	if !is {
		return api.Target{}, false
	}
	return toldFirst(toldWith(p, kin.Chain(p, t.Own)[1:], m))
}

// toldBelow is promise 8.3: who stands in for t.
func toldBelow(p api.Program, t api.Target) []api.Target {
	m, is := toldGet(p, t)
	if !is {
		return nil
	}
	return toldWith(p, kin.Kids(p, t.Own), m)
}

func toldTwice(c api.Class, i int) bool {
	m := c.Methods[i]
	for _, x := range c.Methods[:i] {
		if x.Ctor == m.Ctor && toldSame(x, m) {
			return true
		}
	}
	for i, q := range m.Params {
		for _, x := range m.Params[:i] {
			if x.Name == q.Name {
				return true
			}
		}
	}
	return false
}

func toldNoType(p api.Program, m api.Method) bool {
	if !m.Ctor && m.Type != "void" && !kin.Type(p, m.Type) {
		return true
	}
	return slices.ContainsFunc(toldTypes(m), func(s string) bool { return !kin.Type(p, s) })
}

func toldCheck(p api.Program) (int, int) {
	if !toldRight(p) {
		return api.ErrArg, 0
	}
	for i, c := range p.Classes {
		for k, m := range c.Methods {
			if toldTwice(c, k) {
				return api.ErrTwice, i
			}
			if toldNoType(p, m) {
				return api.ErrClass, i
			}
			if t, is := toldAbove(p, api.Target{Own: c.Name, Nth: k}); is {
				if x, _ := toldGet(p, t); x.Type != m.Type || x.Static != m.Static {
					return api.ErrOver, i
				}
			}
		}
	}
	return api.OK, 0
}

// holdAgainst asks all calls of p, with all those classes and names, and holds them against what is told above.
func holdAgainst(t *testing.T, p api.Program, classes, names []string) {
	t.Helper()
	before := tree.Bare(p)
	code, at := toldCheck(p)
	checkCheck(t, p, code, at)
	for _, class := range classes {
		for _, name := range names {
			if got, want := method.All(p, class, name), toldAll(p, class, name); !slices.Equal(got, want) {
				t.Fatalf("All of %q, %q in %v is %v, not %v", class, name, p, got, want)
			}
		}
		if got, want := method.Ctors(p, class), toldCtors(p, class); !slices.Equal(got, want) {
			t.Fatalf("Ctors of %q in %v is %v, not %v", class, p, got, want)
		}
		for i := -1; i < 5; i++ {
			holdTarget(t, p, api.Target{Own: class, Nth: i}, classes)
		}
	}
	if !reflect.DeepEqual(before, tree.Bare(p)) {
		t.Fatalf("%v is changed", p)
	}
}

// holdTarget asks the calls that are given a Target, and looks for the method that is there in all those classes.
func holdTarget(t *testing.T, p api.Program, x api.Target, classes []string) {
	t.Helper()
	m, is := method.Get(p, x)
	if want, wantIs := toldGet(p, x); is != wantIs || !reflect.DeepEqual(m, want) {
		t.Fatalf("Get of %v in %v is %v, %v", x, p, m, is)
	}
	above, isAbove := method.Above(p, x)
	if want, wantIs := toldAbove(p, x); isAbove != wantIs || above != want {
		t.Fatalf("Above of %v in %v is %v, %v", x, p, above, isAbove)
	}
	below := method.Below(p, x)
	if want := toldBelow(p, x); !slices.Equal(below, want) {
		t.Fatalf("Below of %v in %v is %v, not %v", x, p, below, want)
	}
	checkOrder(t, p, above, isAbove, below)
	if !is {
		return
	}
	for _, class := range classes {
		got, is := method.Find(p, class, m)
		if want, wantIs := toldFirst(toldWith(p, kin.Chain(p, class), m)); is != wantIs || got != want {
			t.Fatalf("Find of %v in %q in %v is %v, %v", m, class, p, got, is)
		}
	}
}

// checkOrder is promise 8.3: a method is below the one above it, and above all that are below it there is one.
func checkOrder(t *testing.T, p api.Program, above api.Target, isAbove bool, below []api.Target) {
	t.Helper()
	if isAbove && len(method.Below(p, above)) == 0 {
		t.Fatalf("nothing is below %v in %v", above, p)
	}
	for _, b := range below {
		if _, is := method.Above(p, b); !is {
			t.Fatalf("nothing is above %v in %v", b, p)
		}
	}
}

// alike are texts that may be taken for each other where they are put together.
var alike = []string{" ", "a", "b", "ab", "cdefghijk", "0", "9cdefghijk", "a b", "a,b", "a 1 b", "a0 b", "1 a", "a1", "a\x00b", "a\x00"}

// TestJoined is promises 8.1 and 8.2: all calls tell two methods from each other just if they are not Same.
func TestJoined(t *testing.T) {
	var l []api.Method
	add := func(name string, types ...string) {
		m := api.Method{Type: "void", Name: name}
		for i, s := range types {
			m.Params = append(m.Params, api.Param{Type: s, Name: strconv.Itoa(i)})
		}
		l = append(l, m)
	}
	for _, s := range alike {
		add(s)
		add(s, "b")
		add("a", s)
		for _, u := range alike[:5] {
			add("a", s, u)
		}
	}
	for _, a := range l {
		for _, b := range l {
			holdPair(t, a, b)
		}
	}
}

// holdPair puts a and b into one class, and then b, of another Type, into one below.
func holdPair(t *testing.T, a, b api.Method) {
	t.Helper()
	same := toldSame(a, b)
	p := of("A", "B A")
	for _, s := range alike {
		p.Classes = append(p.Classes, api.Class{Name: s})
	}
	p.Classes[0].Methods = []api.Method{a, b}
	if l := method.All(p, "A", b.Name); a.Name == b.Name && (len(l) == 1) != same || method.Same(a, b) != same {
		t.Fatalf("All of %v: %v", p, l)
	}
	if code, _ := method.Check(p); code != map[bool]int{true: api.ErrTwice}[same] {
		t.Fatalf("Check of %v: %d", p, code)
	}
	b.Type = "int"
	p.Classes[0].Methods, p.Classes[1].Methods = []api.Method{a}, []api.Method{b}
	if code, _ := method.Check(p); code != map[bool]int{true: api.ErrOver}[same] {
		t.Fatalf("Check of %v: %d", p, code)
	}
}

// TestSmallOnes is promises 8.1 to 8.3: three classes, each with each Super and each list of methods out of some.
func TestSmallOnes(t *testing.T) {
	classes := []string{"A", "B", "", "Exception"}
	lists := [][]api.Method{
		nil,
		of("A: int f int a, int f A a, void -").Classes[0].Methods,
		of("A: new, int f int b, static void g, new int a").Classes[0].Methods,
		of("A: static int f int a, void -, new A a").Classes[0].Methods,
		of("A: int f A x, void g, A f A y, new, new").Classes[0].Methods,
		of("A: None f int a, void f").Classes[0].Methods,
	}
	ways := len(classes) * len(lists)
	for i := range ways * ways * ways {
		var p api.Program
		for _, s := range []string{"A", "B", "C"} {
			p.Classes = append(p.Classes, api.Class{Name: s, Super: classes[i%len(classes)], Methods: lists[i/len(classes)%len(lists)]})
			i /= ways
		}
		holdAgainst(t, p, classes, []string{"f", "g", ""})
	}
}

// TestLot is promises 8.1 to 8.3: programs by lot, with classes from few to more than there may be, and methods that are often Same.
func TestLot(t *testing.T) {
	lot := rand.New(rand.NewSource(8))
	codes := map[int]int{}
	for range 400 {
		p, classes := lotOf(lot)
		lot.Shuffle(len(classes), func(i, j int) { classes[i], classes[j] = classes[j], classes[i] })
		holdAgainst(t, p, classes[:min(len(classes), 8)], []string{"f", "g", "h", "A", ""})
		code, _ := method.Check(p)
		codes[code]++
	}
	for _, code := range []int{api.OK, api.ErrArg, api.ErrTwice, api.ErrClass, api.ErrOver} {
		if codes[code] < 10 {
			t.Fatal("the lot is one-sided:", codes)
		}
	}
}

// lotOf makes a program in which, mostly, nothing is wrong, and tells texts that are its classes, or might be.
func lotOf(lot *rand.Rand) (api.Program, []string) {
	many := 1 + lot.Intn(25)
	classes := slices.Concat(bases, []string{"", "int", "None"})
	for i := range many {
		classes = append(classes, "C"+strconv.Itoa(i))
	}
	own := classes[len(classes)-many:]
	wild := lot.Intn(2) * lot.Intn(60) // of a thousand
	var p api.Program
	for i, s := range own {
		c := api.Class{Name: s}
		if lot.Intn(8) > 0 {
			c.Super = slices.Concat(own[i+1:], []string{"ZeroFault"})[lot.Intn(many-i)]
		}
		if lot.Intn(1000) < wild {
			c.Super = classes[lot.Intn(len(classes))]
		}
		for _, k := range lot.Perm(20)[:lot.Intn(6)] {
			c.Methods = append(c.Methods, lotMethod(lot, k, wild))
		}
		p.Classes = append(p.Classes, c)
	}
	lot.Shuffle(len(p.Classes), func(i, j int) { p.Classes[i], p.Classes[j] = p.Classes[j], p.Classes[i] })
	return p, classes
}

// lotMethod is the method, or constructor, of that number (from 0 to 19), now and then with something else than it has elsewhere.
func lotMethod(lot *rand.Rand, k, wild int) api.Method {
	heads := []string{"int f", "static void g", "boolean h", "new"}
	params := []string{"", " int a", " Exception a", " int a Exception b", " Exception a int b"}
	m := mk(heads[k%4] + params[k/4])
	now := func() bool { return lot.Intn(2000) < wild }
	if now() {
		m.Static = !m.Static
	}
	if now() {
		m.Type = []string{"None", "void", "int", "Exception"}[lot.Intn(4)]
	}
	for i := range m.Params {
		if now() {
			m.Params[i].Type = "void"
		}
		if now() {
			m.Params[i].Name = "b"
		}
	}
	if now() && len(m.Params) > 0 {
		m.Params = append([]api.Param(nil), m.Params[1:]...)
	}
	return m
}
