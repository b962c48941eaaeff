package tree

import (
	"changeling/api"
	"changeling/sign"
)

// stmtFits tells whether s has the parts of its Kind, and no others; what those of E, A, B, C are is asked only where the Kind says it.
func stmtFits(s *api.Stmt) bool {
	return stmtNumFits(s) && stmtTypeFits(s) && stmtNameFits(s) && stmtExprsFit(s) && stmtBlocksFit(s)
}

func stmtNumFits(s *api.Stmt) bool {
	if s.Kind == api.SAssert {
		return s.Num >= 0 && s.Num <= maxAssert
	}
	return s.Num == 0
}

func stmtTypeFits(s *api.Stmt) bool {
	switch s.Kind {
	case api.SVar:
		return valueType(s.Type)
	case api.STry:
		return sign.Class(s.Type)
	}
	return s.Type == ""
}

func stmtNameFits(s *api.Stmt) bool {
	if s.Kind == api.SVar || s.Kind == api.STry {
		return sign.Name(s.Name)
	}
	return s.Name == ""
}

// stmtExprsFit asks how many there are in E; it is false of a Kind that is none.
func stmtExprsFit(s *api.Stmt) bool {
	switch s.Kind {
	case api.SVar, api.SIf, api.SWhile, api.SPrint, api.SAssert, api.SThrow:
		return len(s.E) == 1
	case api.SAssign:
		return len(s.E) == 2 && settable(s.E[0].Kind)
	case api.SExpr:
		return len(s.E) == 1 && callable(s.E[0].Kind)
	case api.SReturn:
		return len(s.E) <= 1
	case api.STry:
		return len(s.E) == 0
	case api.SSuper:
		return true
	}
	return false
}

// settable tells whether an expression of that Kind may be the left side of an SAssign.
func settable(kind int) bool {
	switch kind {
	case api.EName, api.EField, api.ESuperName, api.EStatic:
		return true
	}
	return false
}

// callable tells whether an expression of that Kind may be an SExpr.
func callable(kind int) bool {
	switch kind {
	case api.ECall, api.ESelf, api.ESuperCall, api.EStatCall, api.ENew:
		return true
	}
	return false
}

// stmtBlocksFit asks which of A, B, C there may be; within none of them is an SSuper the first one of a constructor.
func stmtBlocksFit(s *api.Stmt) bool {
	if hasSuper(s.A) || hasSuper(s.B) || hasSuper(s.C) {
		return false
	}
	switch s.Kind {
	case api.STry:
		return true
	case api.SIf:
		return len(s.C) == 0
	case api.SWhile:
		return len(s.B) == 0 && len(s.C) == 0
	}
	return len(s.A) == 0 && len(s.B) == 0 && len(s.C) == 0
}
