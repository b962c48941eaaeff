package typing_test

import (
	"reflect"
	"slices"
	"testing"

	"changeling/api"
	"changeling/field"
	"changeling/kin"
	"changeling/method"
	"changeling/over"
	"changeling/tree"
	"changeling/typing"
)

// What follows tells chapter 10 once more, Kind by Kind, as near to its words as can be.

// teller tells of expressions in p and s.
type teller struct {
	p api.Program
	s typing.Scope
}

// bad is an error that is told.
type bad int

// must ends with that error, unless it is so.
func must(so bool, code int) {
	if !so {
		panic(bad(code))
	}
}

func toldBind(p api.Program, s typing.Scope, e api.Expr) (x api.Expr, typ string, code int) {
	defer func() {
		if r := recover(); r != nil {
			x, typ, code = api.Expr{}, "", int(r.(bad))
		}
	}()
	may := tree.May(api.Program{Classes: []api.Class{{Name: "A", Fields: []api.Field{{Type: "int", Name: "x", Init: []api.Expr{e}}}}}})
	must(sound(p) && may && slices.ContainsFunc(p.Classes, func(c api.Class) bool { return c.Name == s.Class }), api.ErrArg)
	x, typ = teller{p, s}.tell(e)
	return x, typ, api.OK
}

func (d teller) class(t string) bool { return len(kin.Chain(d.p, t)) > 0 }

func (d teller) sub(a, b string) bool { return kin.Sub(d.p, a, b) || kin.Sub(d.p, b, a) }

func (d teller) tell(e api.Expr) (api.Expr, string) {
	x := api.Expr{Kind: e.Kind, Num: e.Num, Text: e.Text, Name: e.Name, Type: e.Type}
	var l []string
	for _, y := range e.L {
		z, t := d.tell(y)
		x.L, l = append(x.L, z), append(l, t)
	}
	var at api.Target
	t := ""
	switch e.Kind {
	case api.EInt:
		t = "int"
	case api.EBool:
		t = "boolean"
	case api.EText:
		t = "String"
	case api.ENull:
		t = "null"
	case api.EThis:
		must(!d.s.Static, api.ErrStatic)
		t = d.s.Class
	case api.EName, api.EField, api.ESuperName, api.EStatic:
		at, t = d.field(e, l)
	case api.ECall, api.ESelf, api.ESuperCall, api.EStatCall:
		at, t = d.method(e, l)
	case api.ENew:
		must(d.class(e.Type), api.ErrClass)
		must(!slices.Contains(l, "void"), api.ErrType)
		var code int
		at, code = over.New(d.p, e.Type, l)
		must(code == 0, code)
		t = e.Type
	case api.ECast, api.EIs:
		must(d.class(e.Type), api.ErrClass)
		must(d.class(l[0]) || l[0] == "null", api.ErrType)
		must(d.sub(l[0], e.Type), api.ErrCast)
		t = "boolean"
		if e.Kind == api.ECast {
			t = e.Type
		}
	case api.EBin:
		t = d.two(e.Name, l[0], l[1])
		must(t != "", api.ErrType)
	case api.EUn:
		t = map[string]string{"-int": "int", "!boolean": "boolean", "#String": "int"}[e.Name+l[0]]
		must(t != "", api.ErrType)
	}
	x.Own, x.Nth = at.Own, at.Nth
	return x, t
}

func (d teller) two(sign, a, b string) string {
	plain := []string{"int", "boolean", "String"}
	switch {
	case sign == "+" && (a == "String" && slices.Contains(plain, b) || b == "String" && slices.Contains(plain, a)):
		return "String"
	case slices.Contains([]string{"+", "-", "*", "/", "%"}, sign) && a == "int" && b == "int":
		return "int"
	case sign == "@" && a == "String" && b == "int":
		return "String"
	case (sign == "<" || sign == "<=") && a == "int" && b == "int":
		return "boolean"
	case (sign == "==" || sign == "!=") && a != "void" && b != "void" && (a == b && slices.Contains(plain, a) || d.sub(a, b)):
		return "boolean"
	case (sign == "&&" || sign == "||") && a == "boolean" && b == "boolean":
		return "boolean"
	}
	return ""
}

func (d teller) field(e api.Expr, l []string) (api.Target, string) {
	if e.Kind == api.EName {
		for i := len(d.s.Vars) - 1; i >= 0; i-- {
			if v := d.s.Vars[i]; v.Name == e.Name {
				if v.Type != "" {
					return api.Target{}, v.Type
				}
				break
			}
		}
	}
	in := d.s.Class
	switch e.Kind {
	case api.EField:
		in = l[0]
		must(d.class(in), api.ErrType)
	case api.ESuperName:
		must(!d.s.Static, api.ErrStatic)
		in = kin.Super(d.p, in)
		must(in != "", api.ErrClass)
	case api.EStatic:
		in = e.Type
		must(d.class(in), api.ErrClass)
	}
	at, is := field.Find(d.p, in, e.Name)
	must(is, api.ErrName)
	f, _ := field.Get(d.p, at)
	switch e.Kind {
	case api.EName:
		must(f.Static || !d.s.Static, api.ErrStatic)
	case api.EField, api.ESuperName:
		must(!f.Static, api.ErrStatic)
	case api.EStatic:
		must(f.Static, api.ErrStatic)
	}
	return at, f.Type
}

func (d teller) method(e api.Expr, l []string) (api.Target, string) {
	in, args := d.s.Class, l
	switch e.Kind {
	case api.ECall:
		in, args = l[0], l[1:]
		must(d.class(in), api.ErrType)
	case api.ESuperCall:
		must(!d.s.Static, api.ErrStatic)
		in = kin.Super(d.p, in)
		must(in != "", api.ErrClass)
	case api.EStatCall:
		in = e.Type
		must(d.class(in), api.ErrClass)
	}
	must(!slices.Contains(args, "void"), api.ErrType)
	at, code := over.Call(d.p, in, e.Name, args)
	must(code == 0, code)
	m, _ := method.Get(d.p, at)
	switch e.Kind {
	case api.ESelf:
		must(m.Static || !d.s.Static, api.ErrStatic)
	case api.ECall, api.ESuperCall:
		must(!m.Static, api.ErrStatic)
	case api.EStatCall:
		must(m.Static, api.ErrStatic)
	}
	return at, m.Type
}

// tally counts how often each Kind came to each code.
type tally map[[2]int]int

// hold holds Bind and Of against what is told of e, and tells its type and its code.
func (n tally) hold(t *testing.T, p api.Program, s typing.Scope, e api.Expr) (api.Expr, string, int) {
	t.Helper()
	x, kind, code := typing.Bind(p, s, e)
	y, want, wantCode := toldBind(p, s, e)
	if kind != want || code != wantCode || !reflect.DeepEqual(x, y) {
		t.Fatalf("%v in %v of %v is %v, %q, %d, not %v, %q, %d", e, s, p, x, kind, code, y, want, wantCode)
	}
	if k, c := typing.Of(p, s, e); k != want || c != wantCode {
		t.Fatalf("Of %v in %v of %v is %q, %d, not %q, %d", e, s, p, k, c, want, wantCode)
	}
	n[[2]int{e.Kind, code}]++
	return x, kind, code
}

// may is which codes each Kind comes to of itself.
func may() map[int][]int {
	const ok = api.OK
	return map[int][]int{
		api.EInt: {ok}, api.EBool: {ok}, api.EText: {ok}, api.ENull: {ok},
		api.EThis:      {ok, api.ErrStatic},
		api.EName:      {ok, api.ErrName, api.ErrStatic},
		api.EField:     {ok, api.ErrType, api.ErrName, api.ErrStatic},
		api.ESuperName: {ok, api.ErrStatic, api.ErrClass, api.ErrName},
		api.EStatic:    {ok, api.ErrClass, api.ErrName, api.ErrStatic},
		api.ECall:      {ok, api.ErrType, api.ErrMethod, api.ErrVague, api.ErrStatic},
		api.ESelf:      {ok, api.ErrType, api.ErrMethod, api.ErrVague, api.ErrStatic},
		api.ESuperCall: {ok, api.ErrStatic, api.ErrClass, api.ErrType, api.ErrMethod, api.ErrVague},
		api.EStatCall:  {ok, api.ErrClass, api.ErrType, api.ErrMethod, api.ErrVague, api.ErrStatic},
		api.ENew:       {ok, api.ErrClass, api.ErrType, api.ErrMethod, api.ErrVague},
		api.ECast:      {ok, api.ErrClass, api.ErrType, api.ErrCast},
		api.EIs:        {ok, api.ErrClass, api.ErrType, api.ErrCast},
		api.EBin:       {ok, api.ErrType},
		api.EUn:        {ok, api.ErrType},
	}
}

// holdSides holds that each Kind came to each code that it may come to.
func (n tally) holdSides(t *testing.T, least int) {
	t.Helper()
	for kind, codes := range may() {
		for _, code := range codes {
			if n[[2]int{kind, code}] < least {
				t.Fatalf("one-sided: Kind %d, code %d: %d times", kind, code, n[[2]int{kind, code}])
			}
		}
	}
}

// TestEach is promise 10.1: each Kind with each part of each type, each name and each class, in each scope.
func TestEach(t *testing.T) {
	p := house()
	leaves := []api.Expr{{}}
	for _, v := range scope("A", all).Vars {
		leaves = append(leaves, api.Expr{Kind: api.EName, Name: v.Name})
	}
	n := tally{}
	for kind, r := range rules() {
		var names []string
		switch {
		case kind == api.EBin || kind == api.EUn:
			names = r.names
		case r.names != nil:
			names = []string{"x", "s", "n", "f", "g", "k", "v", "up", "b", "nn"}
		default:
			names = []string{""}
		}
		refs := []string{""}
		if r.refs != nil {
			refs = []string{"A", "B", "C", "E", "F", "Exception", "None"}
		}
		for _, class := range []string{"A", "E", "F", "static B"} {
			s := scope(class, all)
			for _, a := range leaves {
				for _, b := range leaves {
					var parts []api.Expr
					for _, x := range []api.Expr{a, b} {
						if x.Kind != 0 {
							parts = append(parts, x)
						}
					}
					if len(parts) < r.least || len(parts) > r.most || a.Kind == 0 && b.Kind != 0 {
						continue
					}
					for _, name := range names {
						for _, ref := range refs {
							n.hold(t, p, s, api.Expr{Kind: kind, Name: name, Type: ref, L: parts})
						}
					}
				}
			}
		}
	}
	n.holdSides(t, 1)
}

// TestLot is promise 10.1: programs, scopes and expressions by lot, those that are well typed as parts of others.
func TestLot(t *testing.T) {
	lot := newLot(10)
	n := tally{}
	for range 600 {
		p := lot.program()
		w := lot.pool(p, lot.scope(p))
		before := tree.Bare(p)
		for range 150 {
			e := w.grow()
			if x, typ, code := n.hold(t, p, w.s, e); code == 0 {
				w.keep(from(lot, e, x), typ)
			}
		}
		for range 20 {
			n.hold(t, p, w.s, lot.anyExpr(1+lot.Intn(4)))
		}
		if !reflect.DeepEqual(before, tree.Bare(p)) {
			t.Fatalf("%v is changed", p)
		}
	}
	n.holdSides(t, 4)
}
