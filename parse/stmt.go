package parse

import "changeling/api"

// maxAssert is the greatest number of an assert.
const maxAssert = 9999

// block reads BLOCK.
func (r *reader) block() []api.Stmt { return r.body(false) }

// body reads BLOCK, of a constructor or not, and notes where a statement can't be.
func (r *reader) body(ofCtor bool) []api.Stmt {
	r.enter("{")
	var l []api.Stmt
	for r.until("}") {
		at := r.at()
		s := r.stmt()
		if !fits(s, ofCtor && len(l) == 0) {
			r.late.note(api.ErrParse, at)
		}
		l = append(l, s)
	}
	r.leave("}")
	return l
}

// fits tells whether s can be where it is, the first one of a constructor or not: all but this is told as it is read.
func fits(s api.Stmt, first bool) bool {
	switch s.Kind {
	case api.SSuper:
		return first
	case api.SAssign:
		return takesValue(s.E[0].Kind)
	case api.SExpr:
		return does(s.E[0].Kind)
	}
	return true
}

// takesValue tells whether an expression of that Kind can be ahead of a =.
func takesValue(kind int) bool {
	return kind == api.EName || kind == api.EField || kind == api.ESuperName || kind == api.EStatic
}

// does tells whether an expression of that Kind can be a statement.
func does(kind int) bool {
	switch kind {
	case api.ECall, api.ESelf, api.ESuperCall, api.EStatCall, api.ENew:
		return true
	}
	return false
}

func (r *reader) stmt() api.Stmt {
	switch {
	case r.startsVar():
		return api.Stmt{Kind: api.SVar, Type: r.typeName(), Name: r.name(), E: r.value()}
	case r.take("if"):
		return r.choice()
	case r.take("while"):
		return api.Stmt{Kind: api.SWhile, E: r.condition(), A: r.block()}
	case r.take("return"):
		return r.result()
	case r.take("print"):
		return api.Stmt{Kind: api.SPrint, E: r.finalExpr()}
	case r.take("assert"):
		return api.Stmt{Kind: api.SAssert, Num: r.number(maxAssert), E: r.finalExpr()}
	case r.take("throw"):
		return api.Stmt{Kind: api.SThrow, E: r.finalExpr()}
	case r.take("try"):
		return r.attempt()
	case r.sees("super") && r.seesAt(1, "("):
		return r.superCtor()
	}
	return r.plain()
}

// startsVar tells whether a TYPE is next that begins an SVar: a CLASS may begin an EXPR, too.
func (r *reader) startsVar() bool {
	if r.sees("int") || r.sees("boolean") || r.sees("String") {
		return true
	}
	_, typed := r.ahead(0).(class)
	_, named := r.ahead(1).(name)
	return typed && named
}

// value reads = EXPR ; .
func (r *reader) value() []api.Expr {
	r.need("=")
	return r.finalExpr()
}

// finalExpr reads EXPR ; .
func (r *reader) finalExpr() []api.Expr {
	e := r.expr()
	r.need(";")
	return []api.Expr{e}
}

// condition reads ( EXPR ), which does not count as open.
func (r *reader) condition() []api.Expr {
	r.need("(")
	e := r.expr()
	r.need(")")
	return []api.Expr{e}
}

// choice reads what stands behind if.
func (r *reader) choice() api.Stmt {
	s := api.Stmt{Kind: api.SIf, E: r.condition(), A: r.block()}
	if r.take("else") {
		s.B = r.block()
	}
	return s
}

// result reads what stands behind return.
func (r *reader) result() api.Stmt {
	s := api.Stmt{Kind: api.SReturn}
	if !r.take(";") {
		s.E = r.finalExpr()
	}
	return s
}

// attempt reads what stands behind try.
func (r *reader) attempt() api.Stmt {
	s := api.Stmt{Kind: api.STry, A: r.block()}
	r.need("catch")
	r.need("(")
	s.Type, s.Name = r.class(), r.name()
	r.need(")")
	s.B = r.block()
	if r.take("finally") {
		s.C = r.block()
	}
	return s
}

func (r *reader) superCtor() api.Stmt {
	r.skip()
	s := api.Stmt{Kind: api.SSuper, E: r.args()}
	r.need(";")
	return s
}

// plain reads EXPR = EXPR ; or EXPR ; .
func (r *reader) plain() api.Stmt {
	e := r.expr()
	if r.take("=") {
		return api.Stmt{Kind: api.SAssign, E: append([]api.Expr{e}, r.finalExpr()...)}
	}
	r.need(";")
	return api.Stmt{Kind: api.SExpr, E: []api.Expr{e}}
}
