package tree

import (
	"changeling/api"
	"changeling/sign"
)

// maxAssert is the greatest number of an assert.
const maxAssert = 9999

// reader goes over a program as reading it would, and knows how many nodes may still come.
type reader struct{ left int }

// takes tells whether x, that many deep, may have been read, with all that stands within.
// It stops at the first node that is too many or too deep, so it may call itself.
func (r *reader) takes(x part, deep int) bool {
	r.left--
	if r.left < 0 || deep > api.MaxDeep || !fits(x) {
		return false
	}
	for _, y := range addWithin(nil, x) {
		if !r.takes(y, deep+step(x, y)) {
			return false
		}
	}
	return true
}

// step is how much deeper y is than x, right within which it stands: a class and its members are not deep at all.
func step(x, y part) int {
	_, inClass := x.(*api.Class)
	_, inStmt := x.(*api.Stmt)
	_, isExpr := y.(*api.Expr)
	if inClass || inStmt && isExpr {
		return 0
	}
	return 1
}

// fits tells whether x may have been read, but for what the parts within are themselves.
func fits(x part) bool {
	if e, is := x.(*api.Expr); is {
		return exprFits(e)
	}
	if s, is := x.(*api.Stmt); is {
		return stmtFits(s)
	}
	if m, is := x.(*api.Method); is {
		return methodFits(m)
	}
	if f, is := x.(*api.Field); is {
		return valueType(f.Type) && sign.Name(f.Name) && len(f.Init) <= 1
	}
	if c, is := x.(*api.Class); is {
		return classFits(c)
	}
	return false
}

func classFits(c *api.Class) bool {
	return sign.Class(c.Name) && (c.Super == "" || sign.Class(c.Super)) &&
		len(c.Fields) <= api.MaxMembers && len(c.Methods) <= api.MaxMembers
}

func methodFits(m *api.Method) bool {
	if len(m.Params) > api.MaxParams {
		return false
	}
	for _, p := range m.Params {
		if !valueType(p.Type) || !sign.Name(p.Name) {
			return false
		}
	}
	if m.Ctor {
		return !m.Static && m.Type == "" && m.Name == "" && !hasSuper(behindFirst(m.Body))
	}
	return (m.Type == "void" || valueType(m.Type)) && sign.Name(m.Name) && !hasSuper(m.Body)
}

// valueType tells whether a field, a parameter or a variable may be of type t.
func valueType(t string) bool {
	return t == "int" || t == "boolean" || t == "String" || sign.Class(t)
}

// behindFirst is l without its first statement.
func behindFirst(l []api.Stmt) []api.Stmt { return l[min(1, len(l)):] }

// hasSuper tells whether one of l itself is an SSuper.
func hasSuper(l []api.Stmt) bool {
	for i := range l {
		if l[i].Kind == api.SSuper {
			return true
		}
	}
	return false
}
