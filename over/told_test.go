package over_test

import (
	"math/rand"
	"reflect"
	"slices"
	"strconv"
	"testing"

	"changeling/api"
	"changeling/kin"
	"changeling/method"
	"changeling/over"
	"changeling/tree"
)

// What follows tells chapter 9 once more, as slowly and as near to its words as can be.

func toldFits(p api.Program, m api.Method, args []string) bool {
	if len(m.Params) != len(args) {
		return false
	}
	for i, q := range m.Params {
		if !kin.Sub(p, args[i], q.Type) {
			return false
		}
	}
	return true
}

func toldAbove(p api.Program, a, b api.Method) bool {
	if len(a.Params) != len(b.Params) {
		return false
	}
	for i := range a.Params {
		if !kin.Sub(p, a.Params[i].Type, b.Params[i].Type) {
			return false
		}
	}
	return true
}

func toldGet(p api.Program, t api.Target) (api.Method, bool) {
	if t.Nth == -1 {
		return api.Method{Ctor: true}, true
	}
	return method.Get(p, t)
}

func toldBest(p api.Program, l []api.Target, args []string) (api.Target, int) {
	var fit []api.Method
	var at []api.Target
	for _, t := range l {
		if m, is := toldGet(p, t); is && toldFits(p, m, args) {
			fit, at = append(fit, m), append(at, t)
		}
	}
	if len(fit) == 0 {
		return api.Target{}, api.ErrMethod
	}
	for i, a := range fit {
		if !slices.ContainsFunc(fit, func(b api.Method) bool { return !toldAbove(p, a, b) }) {
			return at[i], api.OK
		}
	}
	return api.Target{}, api.ErrVague
}

func toldCall(p api.Program, class, name string, args []string) (api.Target, int) {
	return toldBest(p, method.All(p, class, name), args)
}

func toldNew(p api.Program, class string, args []string) (api.Target, int) {
	if !slices.Contains(bases, class) && !slices.ContainsFunc(p.Classes, func(c api.Class) bool { return c.Name == class }) {
		return api.Target{}, api.ErrClass
	}
	return toldBest(p, method.Ctors(p, class), args)
}

// tally counts how often each code was told.
type tally map[int]int

func (n tally) hold(t *testing.T, what string, p api.Program, args []string, got api.Target, code int, want api.Target, wantCode int) {
	t.Helper()
	if got != want || code != wantCode {
		t.Fatalf("%s for %q in %v is %v, %d, not %v, %d", what, args, p, got, code, want, wantCode)
	}
	n[code]++
}

// holdAgainst asks all calls of p with those args, and holds them against what is told above.
func (n tally) holdAgainst(t *testing.T, p api.Program, l []api.Target, classes, names, args []string) {
	t.Helper()
	got, code := over.Best(p, l, args)
	want, wantCode := toldBest(p, l, args)
	n.hold(t, "Best", p, args, got, code, want, wantCode)
	for _, class := range classes {
		for _, name := range names {
			got, code = over.Call(p, class, name, args)
			want, wantCode = toldCall(p, class, name, args)
			n.hold(t, "Call of "+class+"."+name, p, args, got, code, want, wantCode)
		}
		got, code = over.New(p, class, args)
		want, wantCode = toldNew(p, class, args)
		n.hold(t, "New of "+class, p, args, got, code, want, wantCode)
	}
}

// holdMethods holds Fits and Above of all those that l tells.
func holdMethods(t *testing.T, p api.Program, l []api.Target, args []string) {
	t.Helper()
	for _, x := range l {
		a, _ := toldGet(p, x)
		if over.Fits(p, a, args) != toldFits(p, a, args) {
			t.Fatalf("Fits of %v and %q in %v", a, args, p)
		}
		for _, y := range l {
			if b, _ := toldGet(p, y); over.Above(p, a, b) != toldAbove(p, a, b) {
				t.Fatalf("Above of %v and %v in %v", a, b, p)
			}
		}
	}
}

// withEach calls ask with each list of up to n of those texts.
func withEach(texts []string, n int, ask func([]string)) {
	ask(nil)
	if n == 0 {
		return
	}
	for _, s := range texts {
		withEach(texts, n-1, func(l []string) { ask(append([]string{s}, l...)) })
	}
}

// TestPairs is promises 9.2 and 9.3: methods of two parameters, each with each Type, all that Fit held against each other; each two and each three of them.
func TestPairs(t *testing.T) {
	types := []string{"A", "B", "C", "null"}
	for _, super := range []string{"A", "B", "null", "Exception", "-"} {
		p := of("L", "A", "B A", "C "+super, "null B")
		if super == "A" || super == "B" {
			p.Classes = p.Classes[:4]
		}
		withEach(types, 2, func(l []string) {
			m := mk("f")
			for _, s := range l {
				m.Params = append(m.Params, api.Param{Type: s})
			}
			p.Classes[0].Methods = append(p.Classes[0].Methods, m)
		})
		n := tally{}
		many := len(p.Classes[0].Methods)
		for i := range many * many * many {
			if i%many > i/many%many && i%7 > 0 {
				continue
			}
			l := []api.Target{{Own: "L", Nth: i % many}, {Own: "L", Nth: i / many % many}, {Own: "L", Nth: i / many / many}}
			for _, args := range [][]string{{"C", "C"}, {"null", "C"}, {"B"}} {
				got, code := over.Best(p, l, args)
				want, wantCode := toldBest(p, l, args)
				n.hold(t, "Best", p, args, got, code, want, wantCode)
			}
		}
		if n[api.OK] < 100 || n[api.ErrMethod] < 100 || n[api.ErrVague] < 10 {
			t.Fatal("one-sided:", super, n)
		}
	}
}

// TestSmallOnes is promises 9.1 to 9.3: three classes, each with each Super and each list of methods out of some.
func TestSmallOnes(t *testing.T) {
	classes := []string{"A", "B", "", "ZeroFault"}
	lists := []string{"", "f A, f B, new A, new B", "f A B, f B A, f Exception, new", "f int, f B B, f A A, new A, new A"}
	asked := [][]string{nil, {"A"}, {"null"}, {"ZeroFault"}, {"B", "B"}, {"null", "A"}}
	ways := len(classes) * len(lists)
	n := tally{}
	for i := range ways * ways * ways {
		var p api.Program
		for _, s := range []string{"A", "B", "C"} {
			c := of("A:" + lists[i/len(classes)%len(lists)]).Classes[0]
			c.Name, c.Super = s, classes[i%len(classes)]
			p.Classes = append(p.Classes, c)
			i /= ways
		}
		l := each("A 0, C 1, B 0, B 1, C 2, A 1")
		for _, args := range asked {
			n.holdAgainst(t, p, l, []string{"A", "C", ""}, []string{"f"}, args)
		}
	}
	for _, code := range []int{api.OK, api.ErrClass, api.ErrMethod, api.ErrVague} {
		if n[code] < 100 {
			t.Fatal("one-sided:", n)
		}
	}
}

// TestLot is promises 9.1 to 9.3: programs by lot, with classes from few to more than there may be, and methods of one Name whose Types are near to one another.
func TestLot(t *testing.T) {
	lot := rand.New(rand.NewSource(9))
	n := tally{}
	for range 1500 {
		p, types := lotOf(lot)
		before := tree.Bare(p)
		for range 6 {
			args := lotArgs(lot, p, types)
			asked := args
			if lot.Intn(4) == 0 {
				asked = slices.Concat(args, []string{"None", ""})
			}
			l := lotTargets(lot, p, 1+lot.Intn(9))
			n.holdAgainst(t, p, l, append(asked, p.Classes[0].Name), []string{"f", "g"}, args)
			holdMethods(t, p, l[:min(len(l), 4)], args)
		}
		if !reflect.DeepEqual(before, tree.Bare(p)) {
			t.Fatalf("%v is changed", p)
		}
	}
	for _, code := range []int{api.OK, api.ErrClass, api.ErrMethod, api.ErrVague} {
		if n[code] < 500 {
			t.Fatal("the lot is one-sided:", n)
		}
	}
}

// lotOf makes a program in which, mostly, nothing is wrong, and tells its types, null, and now and then what is none.
func lotOf(lot *rand.Rand) (api.Program, []string) {
	many := 1 + lot.Intn(25)
	types := []string{"int", "String", "null", "Exception", "ZeroFault"}
	var own []string
	for i := range many {
		own = append(own, "C"+strconv.Itoa(i))
	}
	if lot.Intn(3) == 0 {
		own[lot.Intn(many)] = []string{"null", "int", "", "None", "A"}[lot.Intn(5)]
	}
	types = append(types, own...)
	if lot.Intn(20) == 0 {
		types = append(types, "None", "void", "")
	}
	lot.Shuffle(len(types), func(i, j int) { types[i], types[j] = types[j], types[i] })
	few := slices.Concat(types[:min(len(types), 2+lot.Intn(5))], own[:min(many, lot.Intn(4))])
	if lot.Intn(2) == 0 {
		few = append(few, "null")
	}
	var p api.Program
	for i, s := range own {
		c := api.Class{Name: s}
		if lot.Intn(9) > 0 {
			above := slices.Concat(own[i+1:], []string{"ZeroFault"})
			c.Super = above[lot.Intn(min(2, len(above)))]
		}
		if lot.Intn(500) == 0 {
			c.Super = types[lot.Intn(len(types))]
		}
		for range lot.Intn(7) {
			c.Methods = append(c.Methods, lotMethod(lot, few))
		}
		p.Classes = append(p.Classes, c)
	}
	lot.Shuffle(len(p.Classes), func(i, j int) { p.Classes[i], p.Classes[j] = p.Classes[j], p.Classes[i] })
	return p, few
}

func lotMethod(lot *rand.Rand, types []string) api.Method {
	m := mk([]string{"f", "f", "f", "g", "new"}[lot.Intn(5)])
	m.Static = lot.Intn(2) == 0
	for _, s := range lotTypes(lot, types, []int{0, 1, 2, 2, 3}[lot.Intn(5)]) {
		m.Params = append(m.Params, api.Param{Type: s, Name: "a"})
	}
	return m
}

func lotTypes(lot *rand.Rand, types []string, many int) []string {
	var l []string
	for range many {
		l = append(l, types[lot.Intn(len(types))])
	}
	return l
}

// lotArgs is types that one of the methods may have been made for, or any.
func lotArgs(lot *rand.Rand, p api.Program, types []string) []string {
	args := lotTypes(lot, types, lot.Intn(4))
	if l := p.Classes[lot.Intn(len(p.Classes))].Methods; len(l) > 0 {
		args = nil
		for _, q := range l[lot.Intn(len(l))].Params {
			low := append(kin.Kids(p, q.Type), q.Type, "null", types[lot.Intn(len(types))])
			args = append(args, low[lot.Intn(len(low))])
		}
	}
	return args
}

// lotTargets tells methods of p, and now and then what is none.
func lotTargets(lot *rand.Rand, p api.Program, many int) []api.Target {
	var l []api.Target
	for range many {
		c := p.Classes[lot.Intn(len(p.Classes))]
		l = append(l, api.Target{Own: c.Name, Nth: lot.Intn(len(c.Methods) + 1)})
		switch lot.Intn(20) {
		case 0:
			l[len(l)-1].Own = "None"
		case 1:
			l[len(l)-1].Nth = -1 - lot.Intn(2)
		}
	}
	return l
}
