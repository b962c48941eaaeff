package parse

import "changeling/api"

func (r *reader) program() api.Program {
	var p api.Program
	for len(r.words) > 0 {
		p.Classes = append(p.Classes, r.wholeClass())
	}
	return p
}

// wholeClass reads a class, from the word class to its }.
func (r *reader) wholeClass() api.Class {
	r.need("class")
	c := api.Class{Name: r.class()}
	if r.take("extends") {
		c.Super = r.class()
	}
	r.need("{")
	for r.until("}") {
		c = with(c, r.member(c.Name))
	}
	r.need("}")
	return c
}

// with is c and one member more, which goes behind those of its kind.
func with(c api.Class, member part) api.Class {
	if f, is := member.(api.Field); is {
		c.Fields = append(c.Fields, f)
	}
	if m, is := member.(api.Method); is {
		c.Methods = append(c.Methods, m)
	}
	return c
}

// member reads a field or a method of the class own.
func (r *reader) member(own string) part {
	static := r.take("static")
	if !static && r.startsCtor(own) {
		return r.ctor()
	}
	if r.take("void") {
		return r.method(api.Method{Static: static, Type: "void", Name: r.name()})
	}
	t, n := r.typeName(), r.name()
	if r.sees("(") {
		return r.method(api.Method{Static: static, Type: t, Name: n})
	}
	return r.field(api.Field{Static: static, Type: t, Name: n})
}

// startsCtor tells it by the second word: a type may be the class's own name, too.
func (r *reader) startsCtor(own string) bool {
	c, is := r.ahead(0).(class)
	return is && string(c) == own && r.seesAt(1, "(")
}

func (r *reader) ctor() api.Method {
	r.skip()
	return api.Method{Ctor: true, Params: r.params(), Body: r.body(true)}
}

// method reads what stands behind the name of m.
func (r *reader) method(m api.Method) api.Method {
	m.Params, m.Body = r.params(), r.block()
	return m
}

// field reads what stands behind the name of f.
func (r *reader) field(f api.Field) api.Field {
	if r.take("=") {
		f.Init = []api.Expr{r.expr()}
	}
	r.need(";")
	return f
}

// params reads ( PARAMS ).
func (r *reader) params() []api.Param {
	r.need("(")
	l := listed(r, (*reader).param)
	r.need(")")
	return l
}

func (r *reader) param() api.Param { return api.Param{Type: r.typeName(), Name: r.name()} }

// listed reads things of one sort with , between, or none, up to a ).
func listed[T any](r *reader, one func(*reader) T) []T {
	if r.sees(")") {
		return nil
	}
	l := []T{one(r)}
	for r.take(",") {
		l = append(l, one(r))
	}
	return l
}
