package bind_test

import (
	"slices"
	"strconv"
	"testing"
	"unicode/utf8"

	"changeling/api"
	"changeling/bind"
	"changeling/field"
	"changeling/kin"
	"changeling/method"
	"changeling/over"
)

// What follows lets a bound program go, and looks whether it comes to an end, and never gets stuck.

// object is what a value that is none of null and the plain ones points to.
type object struct {
	class  string
	fields map[api.Target]any
}

// nothing is what comes of a method that is void.
type nothing struct{}

// thrown is what a throw goes up with; spent is that there is no fuel.
type (
	thrown struct{ o *object }
	spent  struct{}
	failed struct{}
	stuck  string
)

// machine is where a bound program goes. A value is an int32, a bool, a string, an *object (nil: null), or nothing.
type machine struct {
	p       api.Program
	statics map[api.Target]any
	fuel    int
}

// frame is a body that goes.
type frame struct {
	*machine
	this *object
	m    api.Method
	vars []variable
}

type variable struct {
	api.Param
	v any
}

func (w *machine) must(so bool, why string) {
	if !so {
		panic(stuck(why))
	}
}

func (w *machine) burn() {
	if w.fuel--; w.fuel < 0 {
		panic(spent{})
	}
}

// is tells whether v may be a value of that type.
func (w *machine) is(v any, t string) bool {
	switch x := v.(type) {
	case int32:
		return t == "int"
	case bool:
		return t == "boolean"
	case string:
		return t == "String"
	case nothing:
		return t == "void"
	case *object:
		return x == nil && kin.Sub(w.p, "null", t) || x != nil && kin.Sub(w.p, x.class, t)
	}
	return false
}

func zero(t string) any {
	switch t {
	case "int":
		return int32(0)
	case "boolean":
		return false
	case "String":
		return ""
	}
	return (*object)(nil)
}

func (w *machine) class(name string) (api.Class, bool) {
	i := kin.Find(w.p, name)
	if i < 0 {
		return api.Class{}, false
	}
	return w.p.Classes[i], true
}

func (w *machine) object(class string) *object {
	o := &object{class: class, fields: map[api.Target]any{}}
	for _, at := range field.All(w.p, class) {
		f, _ := field.Get(w.p, at)
		o.fields[at] = zero(f.Type)
	}
	return o
}

func (w *machine) throw(class string) { panic(thrown{w.object(class)}) }

// start sets what is static to its zero, and then to its Init.
func (w *machine) start() {
	for _, c := range w.p.Classes {
		for i, f := range c.Fields {
			if f.Static {
				w.statics[api.Target{Own: c.Name, Nth: i}] = zero(f.Type)
			}
		}
	}
	for _, c := range w.p.Classes {
		for i, f := range c.Fields {
			if f.Static && len(f.Init) == 1 {
				g := &frame{machine: w}
				w.statics[api.Target{Own: c.Name, Nth: i}] = g.value(f.Init[0], f.Type)
			}
		}
	}
}

// call lets a method go with those values.
func (w *machine) call(m api.Method, this *object, values []any) any {
	w.burn()
	w.must(m.Static == (this == nil) && len(values) == len(m.Params), "it can't be called so")
	g := &frame{machine: w, this: this, m: m}
	for i, q := range m.Params {
		g.add(q, values[i])
	}
	v, left := g.list(m.Body)
	if m.Type == "void" {
		w.must(!left || v == nothing{}, "a value where none is promised")
		return nothing{}
	}
	w.must(left && w.is(v, m.Type), "no value where one is promised")
	return v
}

// build lets the constructor at go for the class where it stands; of what is not written only what it stands for.
func (w *machine) build(at api.Target, this *object, values []any) {
	c, is := w.class(at.Own)
	if !is {
		w.must(kin.Base(at.Own) && at.Nth == -1, "no constructor")
		return
	}
	m := api.Method{Ctor: true}
	if at.Nth != -1 {
		m = c.Methods[at.Nth]
	}
	w.must(m.Ctor && len(m.Params) == len(values), "it can't be called so")
	g := &frame{machine: w, this: nil, m: m}
	for i, q := range m.Params {
		g.add(q, values[i])
	}
	body := m.Body
	if len(body) > 0 && body[0].Kind == api.SSuper {
		w.burn()
		up := api.Target{Own: c.Super, Nth: body[0].Nth}
		w.must(c.Super != "", "no Super")
		values := g.values(body[0].E)
		w.build(up, this, values)
		body = body[1:]
	} else if c.Super != "" {
		up, code := over.New(w.p, c.Super, nil)
		w.must(code == 0, "no constructor of the Super")
		w.build(up, this, nil)
	}
	for i, f := range c.Fields {
		if !f.Static && len(f.Init) == 1 {
			h := &frame{machine: w, this: this}
			this.fields[api.Target{Own: c.Name, Nth: i}] = h.value(f.Init[0], f.Type)
		}
	}
	g.this = this
	v, left := g.list(body)
	w.must(!left || v == nothing{}, "a constructor gives a value")
}

func (g *frame) add(q api.Param, v any) {
	g.must(g.is(v, q.Type), "no value of the variable's type")
	_, twice := g.find(q.Name)
	g.must(!twice, "the variable is there already")
	g.vars = append(g.vars, variable{q, v})
}

func (g *frame) find(name string) (int, bool) {
	i := slices.IndexFunc(g.vars, func(v variable) bool { return v.Name == name })
	return i, i >= 0
}

// list lets statements go; true, if a return is come to, and what it gives.
func (g *frame) list(l []api.Stmt) (v any, left bool) {
	there := len(g.vars)
	for i := 0; i < len(l) && !left; i++ {
		g.burn()
		v, left = g.one(l[i])
	}
	g.vars = g.vars[:there]
	return v, left
}

func (g *frame) one(s api.Stmt) (v any, left bool) {
	switch s.Kind {
	case api.SVar:
		g.add(api.Param{Type: s.Type, Name: s.Name}, g.step(s.E[0]))
	case api.SAssign:
		g.assign(s.E[0], s.E[1])
	case api.SExpr:
		g.step(s.E[0])
	case api.SIf:
		if g.value(s.E[0], "boolean").(bool) {
			return g.list(s.A)
		}
		return g.list(s.B)
	case api.SWhile:
		for !left && g.value(s.E[0], "boolean").(bool) {
			v, left = g.list(s.A)
			g.burn()
		}
		return v, left
	case api.SReturn:
		if len(s.E) == 0 {
			return nothing{}, true
		}
		return g.step(s.E[0]), true
	case api.SPrint:
		v := g.step(s.E[0])
		g.must(g.is(v, "int") || g.is(v, "boolean") || g.is(v, "String"), "it can't be printed")
	case api.SAssert:
		if !g.value(s.E[0], "boolean").(bool) {
			panic(failed{})
		}
	case api.SThrow:
		o := g.value(s.E[0], "Exception").(*object)
		if o == nil {
			g.throw("NullFault")
		}
		panic(thrown{o})
	case api.STry:
		return g.try(s)
	default:
		panic(stuck("no such statement here"))
	}
	return nil, false
}

func (g *frame) try(s api.Stmt) (v any, left bool) {
	vars := g.vars
	o, v, left := g.guarded(func() (any, bool) { return g.list(s.A) })
	g.vars = vars
	if o != nil && kin.Sub(g.p, o.class, s.Type) {
		o, v, left = g.guarded(func() (any, bool) {
			g.add(api.Param{Type: s.Type, Name: s.Name}, o)
			return g.list(s.B)
		})
		g.vars = vars
	}
	if u, is := g.list(s.C); is {
		return u, true
	}
	if o != nil {
		panic(thrown{o})
	}
	return v, left
}

// guarded lets f go; the object, if it ends with a throw.
func (g *frame) guarded(f func() (any, bool)) (o *object, v any, left bool) {
	defer func() {
		r := recover()
		if x, is := r.(thrown); is {
			o, v, left = x.o, nil, false
		} else if r != nil {
			panic(r)
		}
	}()
	v, left = f()
	return nil, v, left
}

func (g *frame) assign(to, of api.Expr) {
	at := api.Target{Own: to.Own, Nth: to.Nth}
	if to.Kind == api.EName && at == (api.Target{}) {
		i, is := g.find(to.Name)
		g.must(is, "no variable")
		g.vars[i].v = g.value(of, g.vars[i].Type)
		return
	}
	o, static := g.holder(to)
	f, is := field.Get(g.p, at)
	g.must(is, "no field")
	v := g.value(of, f.Type)
	if static {
		g.statics[at] = v
		return
	}
	if o == nil {
		g.throw("NullFault")
	}
	o.fields[at] = v
}

// holder is the object that has the field that e is bound to; or the field is static.
func (g *frame) holder(e api.Expr) (o *object, static bool) {
	at := api.Target{Own: e.Own, Nth: e.Nth}
	o = g.this
	if e.Kind == api.EField {
		x, is := g.step(e.L[0]).(*object)
		g.must(is, "no object")
		o = x
	}
	f, is := field.Get(g.p, at)
	g.must(is && f.Name == e.Name, "no field")
	if f.Static {
		g.must(e.Kind == api.EName || e.Kind == api.EStatic, "static")
		return nil, true
	}
	g.must(e.Kind != api.EStatic, "not static")
	g.must(o != nil || e.Kind == api.EField, "no this")
	g.must(o == nil || slices.Contains(field.All(g.p, o.class), at), "the object has no such field")
	return o, false
}

// value is what comes of e, which must be of that type.
func (g *frame) value(e api.Expr, t string) any {
	v := g.step(e)
	g.must(g.is(v, t), "not of type "+t)
	return v
}

func (g *frame) values(l []api.Expr) []any {
	var values []any
	for _, e := range l {
		values = append(values, g.step(e))
	}
	return values
}

func (g *frame) step(e api.Expr) any {
	switch e.Kind {
	case api.EInt:
		return e.Num
	case api.EBool:
		return e.Num == 1
	case api.EText:
		return e.Text
	case api.ENull:
		return (*object)(nil)
	case api.EThis:
		g.must(g.this != nil, "no this")
		return g.this
	case api.EName, api.EField, api.ESuperName, api.EStatic:
		return g.field(e)
	case api.ECall, api.ESelf, api.ESuperCall, api.EStatCall:
		return g.called(e)
	case api.ENew:
		values := g.values(e.L)
		g.burn()
		o := g.object(e.Type)
		g.must(e.Own == e.Type, "a constructor of another class")
		g.build(api.Target{Own: e.Own, Nth: e.Nth}, o, values)
		return o
	case api.ECast, api.EIs:
		o, is := g.step(e.L[0]).(*object)
		g.must(is, "no object")
		fits := o != nil && kin.Sub(g.p, o.class, e.Type)
		if e.Kind == api.EIs {
			return fits
		}
		if o != nil && !fits {
			g.throw("CastFault")
		}
		return o
	case api.EUn:
		return g.unary(e.Name, g.step(e.L[0]))
	}
	if e.Name == "&&" || e.Name == "||" {
		left := g.value(e.L[0], "boolean").(bool)
		if left == (e.Name == "||") {
			return left
		}
		return g.value(e.L[1], "boolean")
	}
	return g.binary(e.Name, g.step(e.L[0]), g.step(e.L[1]))
}

func (g *frame) field(e api.Expr) any {
	at := api.Target{Own: e.Own, Nth: e.Nth}
	if e.Kind == api.EName && at == (api.Target{}) {
		i, is := g.find(e.Name)
		g.must(is, "no variable")
		return g.vars[i].v
	}
	o, static := g.holder(e)
	if static {
		return g.statics[at]
	}
	if o == nil {
		g.throw("NullFault")
	}
	return o.fields[at]
}

func (g *frame) called(e api.Expr) any {
	at := api.Target{Own: e.Own, Nth: e.Nth}
	m, is := method.Get(g.p, at)
	g.must(is && !m.Ctor && m.Name == e.Name, "no method")
	args, o := e.L, g.this
	if e.Kind == api.ECall {
		x, is := g.step(e.L[0]).(*object)
		g.must(is, "no object")
		args, o = e.L[1:], x
	}
	values := g.values(args)
	if m.Static {
		g.must(e.Kind == api.ESelf || e.Kind == api.EStatCall, "static")
		return g.call(m, nil, values)
	}
	g.must(e.Kind != api.EStatCall, "not static")
	if o == nil {
		g.must(e.Kind == api.ECall, "no this")
		g.throw("NullFault")
	}
	g.must(slices.Contains(kin.Chain(g.p, o.class), e.Own), "the object has no such method")
	if e.Kind != api.ESuperCall {
		its, is := method.Find(g.p, o.class, m)
		g.must(is, "no method stands in for it")
		m, _ = method.Get(g.p, its)
	}
	return g.call(m, o, values)
}

func (g *frame) unary(sign string, v any) any {
	switch x := v.(type) {
	case int32:
		g.must(sign == "-", "sign")
		return -x
	case bool:
		g.must(sign == "!", "sign")
		return !x
	case string:
		g.must(sign == "#", "sign")
		return int32(utf8.RuneCountInString(x))
	}
	panic(stuck("sign"))
}

func (g *frame) binary(sign string, v, u any) any {
	switch sign {
	case "==", "!=":
		_, ofObjects := v.(*object)
		_, ofOther := u.(*object)
		g.must(ofObjects == ofOther && v != nothing{} && u != nothing{}, "compared")
		return v == u == (sign == "==")
	case "+":
		_, is := v.(string)
		_, too := u.(string)
		if is || too {
			return (g.text(v) + g.text(u))[:min(20, len(g.text(v)+g.text(u)))]
		}
	case "@":
		l := []rune(v.(string))
		i := u.(int32)
		if i < 0 || int(i) >= len(l) {
			g.throw("RangeFault")
		}
		return string(l[i])
	}
	a, is := v.(int32)
	b, too := u.(int32)
	g.must(is && too, "no numbers")
	switch sign {
	case "<":
		return a < b
	case "<=":
		return a <= b
	case "/", "%":
		if b == 0 {
			g.throw("ZeroFault")
		}
	}
	return a - b*2
}

func (g *frame) text(v any) string {
	switch x := v.(type) {
	case int32:
		return strconv.Itoa(int(x))
	case bool:
		return strconv.FormatBool(x)
	case string:
		return x
	}
	panic(stuck("no text"))
}

// goes lets a test of p go, which is bound, and tells how it ends.
func goes(p api.Program, t api.Test) (end any) {
	defer func() {
		if r := recover(); r != nil {
			end = r
			if e, is := r.(error); is {
				end = stuck(e.Error())
			}
		}
	}()
	w := &machine{p: p, statics: map[api.Target]any{}, fuel: 1000}
	w.start()
	m, _ := method.Get(p, api.Target{Own: t.Class, Nth: slices.IndexFunc(p.Classes[kin.Find(p, t.Class)].Methods, func(m api.Method) bool {
		return m.Name == t.Name && m.Static && len(m.Params) == 0
	})})
	return w.call(m, nil, nil)
}

// TestGoesOn is promise 12.4: what is accepted comes to an end, and never gets stuck; of what is refused there is nothing that could run.
func TestGoesOn(t *testing.T) {
	lot := newLot(124)
	ends := map[string]int{}
	for range 400 {
		p := lot.program()
		b, code, _ := bind.Program(p)
		l := bind.Tests(p)
		if code != 0 {
			if len(b.Classes)+len(l) != 0 {
				t.Fatal(p, b, l)
			}
			continue
		}
		for _, x := range l {
			switch end := goes(b, x).(type) {
			case nothing:
				ends["ended"]++
			case thrown:
				ends["thrown"]++
				ends[end.o.class]++
			case spent:
				ends["spent"]++
			case failed:
				ends["failed"]++
			default:
				t.Fatalf("%v of %v: %v", x, b, end)
			}
		}
	}
	for _, s := range []string{"ended", "thrown", "spent", "failed", "NullFault", "E"} {
		if ends[s] < 5 {
			t.Error("one-sided:", ends)
		}
	}
}
