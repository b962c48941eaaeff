package typing_test

import (
	"slices"
	"strconv"
	"testing"
	"unicode/utf8"

	"changeling/api"
	"changeling/field"
	"changeling/kin"
	"changeling/method"
	"changeling/typing"
)

// What follows lets a bound expression go, and looks whether it comes to a value of its type, or to one of the faults that there are.

// object is what a value that is none of null and the plain ones points to.
type object struct {
	class  string
	fields map[api.Target]any
}

// nothing is what comes of a method that is void.
type nothing struct{}

// fault is the class of what is thrown.
type fault string

// stuck says why an expression does not go on.
type stuck string

// world is where expressions of p and s go. A value is an int32, a bool, a string, an *object (nil: null), or nothing.
type world struct {
	lot
	p       api.Program
	s       typing.Scope
	this    *object
	vars    map[string]any
	statics map[api.Target]any
	calls   int
}

func (w *world) must(so bool, why string) {
	if !so {
		panic(stuck(why))
	}
}

// some is any value of that type: a method may answer any.
func (w *world) some(t string) any {
	switch t {
	case "int":
		return int32(w.Intn(5) - 1)
	case "boolean":
		return w.once(2)
	case "String":
		return from(w.lot, "", "a", "ß€b")
	case "void":
		return nothing{}
	}
	if w.once(4) || t == "null" {
		return (*object)(nil)
	}
	return w.object(from(w.lot, append(kin.Kids(w.p, t), t)...))
}

func (w *world) object(class string) *object {
	return &object{class: class, fields: map[api.Target]any{}}
}

// is tells whether v may be a value of that type.
func (w *world) is(v any, t string) bool {
	switch x := v.(type) {
	case int32:
		return t == "int"
	case bool:
		return t == "boolean"
	case string:
		return t == "String"
	case nothing:
		return t == "void"
	case *object:
		return x == nil && kin.Sub(w.p, "null", t) || x != nil && kin.Sub(w.p, x.class, t)
	}
	return false
}

// goes lets e, which is bound, go; what comes of it is held against the type that it was told to have.
func (w *world) goes(e api.Expr) any {
	v := w.step(e)
	t, code := typing.Of(w.p, w.s, e)
	w.must(code == 0 && w.is(v, t), "not of its type, "+t)
	return v
}

func (w *world) step(e api.Expr) any {
	switch e.Kind {
	case api.EInt:
		return e.Num
	case api.EBool:
		return e.Num == 1
	case api.EText:
		return e.Text
	case api.ENull:
		return (*object)(nil)
	case api.EThis:
		w.must(w.this != nil, "no this")
		return w.this
	case api.EName, api.EField, api.ESuperName, api.EStatic:
		return w.field(e)
	case api.ECall, api.ESelf, api.ESuperCall, api.EStatCall:
		return w.call(e)
	case api.ENew:
		return w.made(e)
	case api.ECast, api.EIs:
		return w.look(e)
	case api.EUn:
		return w.one(e.Name, w.goes(e.L[0]))
	}
	if e.Name == "&&" || e.Name == "||" {
		left := w.goes(e.L[0]).(bool)
		if left == (e.Name == "||") {
			return left
		}
		return w.goes(e.L[1]).(bool)
	}
	return w.two(e.Name, w.goes(e.L[0]), w.goes(e.L[1]))
}

// receiver is the object of the first part; a fault, if that is null.
func (w *world) receiver(v any) *object {
	o, is := v.(*object)
	w.must(is, "no object")
	if o == nil {
		panic(fault("NullFault"))
	}
	return o
}

func (w *world) field(e api.Expr) any {
	at := api.Target{Own: e.Own, Nth: e.Nth}
	if e.Kind == api.EName && at == (api.Target{}) {
		v, is := w.vars[e.Name]
		w.must(is, "no variable")
		return v
	}
	f, is := field.Get(w.p, at)
	w.must(is && f.Name == e.Name, "no field")
	in := w.statics
	if !f.Static {
		o := w.this
		if e.Kind == api.EField {
			o = w.receiver(w.goes(e.L[0]))
		}
		w.must(o != nil && slices.Contains(field.All(w.p, o.class), at), "the object has no such field")
		in = o.fields
	} else {
		w.must(e.Kind == api.EName || e.Kind == api.EStatic, "static")
	}
	if _, is := in[at]; !is {
		in[at] = w.some(f.Type)
	}
	return in[at]
}

func (w *world) args(l []api.Expr) []any {
	var values []any
	for _, e := range l {
		values = append(values, w.goes(e))
	}
	return values
}

// takes holds that m takes those values.
func (w *world) takes(m api.Method, values []any) {
	w.must(len(m.Params) == len(values), "more or fewer parameters")
	for i, q := range m.Params {
		w.must(w.is(values[i], q.Type), "no value for a parameter")
	}
}

func (w *world) call(e api.Expr) any {
	at := api.Target{Own: e.Own, Nth: e.Nth}
	m, is := method.Get(w.p, at)
	w.must(is && !m.Ctor && m.Name == e.Name, "no method")
	args := e.L
	var first any
	if e.Kind == api.ECall {
		first, args = w.goes(e.L[0]), e.L[1:]
	}
	values := w.args(args)
	if !m.Static {
		o := w.this
		if e.Kind == api.ECall {
			o = w.receiver(first)
		}
		w.must(o != nil && slices.Contains(kin.Chain(w.p, o.class), e.Own), "the object has no such method")
		if e.Kind != api.ESuperCall {
			its, is := method.Find(w.p, o.class, m)
			other, found := method.Get(w.p, its)
			w.must(is && found && other.Type == m.Type && other.Static == m.Static, "what stands in for it is another one")
			m = other
		}
	} else {
		w.must(e.Kind == api.ESelf || e.Kind == api.EStatCall, "static")
	}
	w.takes(m, values)
	w.calls++
	return w.some(m.Type)
}

func (w *world) made(e api.Expr) any {
	values := w.args(e.L)
	w.must(e.Own == e.Type && (kin.Base(e.Own) || kin.Find(w.p, e.Own) >= 0), "no class")
	if e.Nth == -1 {
		w.must(len(values) == 0, "arguments of what is not written")
		return w.object(e.Own)
	}
	m, is := method.Get(w.p, api.Target{Own: e.Own, Nth: e.Nth})
	w.must(is && m.Ctor, "no constructor")
	w.takes(m, values)
	return w.object(e.Own)
}

func (w *world) look(e api.Expr) any {
	o, is := w.goes(e.L[0]).(*object)
	w.must(is, "no object")
	fits := o != nil && kin.Sub(w.p, o.class, e.Type)
	if e.Kind == api.EIs {
		return fits
	}
	if o != nil && !fits {
		panic(fault("CastFault"))
	}
	return o
}

func (w *world) one(sign string, v any) any {
	switch x := v.(type) {
	case int32:
		w.must(sign == "-", "sign")
		return -x
	case bool:
		w.must(sign == "!", "sign")
		return !x
	case string:
		w.must(sign == "#", "sign")
		return int32(utf8.RuneCountInString(x))
	}
	panic(stuck("sign"))
}

func (w *world) two(sign string, v, u any) any {
	switch sign {
	case "==", "!=":
		_, ofObjects := v.(*object)
		_, ofOther := u.(*object)
		w.must(ofObjects == ofOther && v != nothing{} && u != nothing{}, "compared")
		return v == u == (sign == "==")
	case "+":
		_, is := v.(string)
		_, too := u.(string)
		if is || too {
			return w.text(v) + w.text(u)
		}
	case "@":
		l := []rune(v.(string))
		i := u.(int32)
		if i < 0 || int(i) >= len(l) {
			panic(fault("RangeFault"))
		}
		return string(l[i])
	}
	a, is := v.(int32)
	b, too := u.(int32)
	w.must(is && too, "no numbers")
	switch sign {
	case "<":
		return a < b
	case "<=":
		return a <= b
	case "/", "%":
		if b == 0 {
			panic(fault("ZeroFault"))
		}
	}
	return a*2 + b
}

func (w *world) text(v any) string {
	switch x := v.(type) {
	case int32:
		return strconv.Itoa(int(x))
	case bool:
		return strconv.FormatBool(x)
	case string:
		return x
	}
	panic(stuck("no text"))
}

// try lets e go, and tells the fault to which it came, if to one, and whether it got stuck.
func (w *world) try(e api.Expr) (thrown fault, why stuck) {
	defer func() {
		switch r := recover().(type) {
		case nil:
		case fault:
			thrown = r
		case stuck:
			why = r
		case error:
			why = stuck(r.Error())
		}
	}()
	w.goes(e)
	return "", ""
}

// start is a world in which s may be: with a this, where it is not Static, and all variables.
func start(l lot, p api.Program, s typing.Scope) *world {
	w := &world{lot: l, p: p, s: s, vars: map[string]any{}, statics: map[api.Target]any{}}
	if !s.Static {
		w.this = w.object(from(l, append(kin.Kids(p, s.Class), s.Class)...))
	}
	for _, v := range s.Vars {
		w.vars[v.Name] = w.some(v.Type)
	}
	return w
}

// TestGoesOn is promise 10.2: what is well typed, and bound, comes to a value of its type, or to a fault, and never gets stuck.
func TestGoesOn(t *testing.T) {
	lot := newLot(102)
	ends := map[fault]int{}
	calls := 0
	for range 600 {
		p := lot.program()
		s := lot.scope(p)
		for i, v := range s.Vars {
			if !kin.Type(p, v.Type) {
				s.Vars[i].Type = "int"
			}
		}
		w := lot.pool(p, s)
		for range 150 {
			e := w.grow()
			x, typ, code := typing.Bind(p, s, e)
			if code != 0 {
				continue
			}
			w.keep(e, typ)
			for range 3 {
				at := start(lot, p, s)
				thrown, why := at.try(x)
				if why != "" {
					t.Fatalf("%v of type %s in %v of %v is stuck: %s", x, typ, s, p, why)
				}
				ends[thrown]++
				calls += at.calls
			}
		}
	}
	if ends[""] < 10000 || ends["NullFault"] < 500 || ends["CastFault"] < 100 || ends["ZeroFault"] < 10 || ends["RangeFault"] < 10 || calls < 3000 {
		t.Fatal("the lot is one-sided:", ends, calls)
	}
}
