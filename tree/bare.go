package tree

import (
	"strings"

	"changeling/api"
)

// renewed is a list like l in memory of its own.
func renewed[T any](l []T) []T { return append([]T(nil), l...) }

// strip takes Own and Nth from x, and gives it lists and texts of its own; x itself is written over.
func strip(x part) {
	if e, is := x.(*api.Expr); is {
		*e = bareExpr(*e)
	}
	if s, is := x.(*api.Stmt); is {
		*s = bareStmt(*s)
	}
	if m, is := x.(*api.Method); is {
		*m = bareMethod(*m)
	}
	if f, is := x.(*api.Field); is {
		f.Type, f.Name = strings.Clone(f.Type), strings.Clone(f.Name)
		f.Init = renewed(f.Init)
	}
	if c, is := x.(*api.Class); is {
		c.Name, c.Super = strings.Clone(c.Name), strings.Clone(c.Super)
		c.Fields, c.Methods = renewed(c.Fields), renewed(c.Methods)
	}
}

func bareExpr(e api.Expr) api.Expr {
	return api.Expr{
		Kind: e.Kind,
		Num:  e.Num,
		Text: strings.Clone(e.Text),
		Name: strings.Clone(e.Name),
		Type: strings.Clone(e.Type),
		L:    renewed(e.L),
	}
}

func bareStmt(s api.Stmt) api.Stmt {
	return api.Stmt{
		Kind: s.Kind,
		Num:  s.Num,
		Type: strings.Clone(s.Type),
		Name: strings.Clone(s.Name),
		E:    renewed(s.E),
		A:    renewed(s.A),
		B:    renewed(s.B),
		C:    renewed(s.C),
	}
}

func bareMethod(m api.Method) api.Method {
	m.Type, m.Name = strings.Clone(m.Type), strings.Clone(m.Name)
	m.Params = renewed(m.Params)
	for i, p := range m.Params {
		m.Params[i] = api.Param{Type: strings.Clone(p.Type), Name: strings.Clone(p.Name)}
	}
	m.Body = renewed(m.Body)
	return m
}
