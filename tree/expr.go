package tree

import (
	"changeling/api"
	"changeling/sign"
)

// exprFits tells whether e has the parts of its Kind, and no others; what those of L are is not asked.
func exprFits(e *api.Expr) bool {
	return exprNumFits(e) && exprTextFits(e) && exprNameFits(e) && exprTypeFits(e) && exprListFits(e)
}

func exprNumFits(e *api.Expr) bool {
	switch e.Kind {
	case api.EInt:
		return e.Num >= 0
	case api.EBool:
		return e.Num == 0 || e.Num == 1
	}
	return e.Num == 0
}

func exprTextFits(e *api.Expr) bool {
	if e.Kind == api.EText {
		return len(e.Text) <= api.MaxText && sign.Bad(e.Text) < 0
	}
	return e.Text == ""
}

func exprNameFits(e *api.Expr) bool {
	switch e.Kind {
	case api.EName, api.EField, api.ESuperName, api.EStatic,
		api.ECall, api.ESelf, api.ESuperCall, api.EStatCall:
		return sign.Name(e.Name)
	case api.EBin:
		return binary(e.Name)
	case api.EUn:
		return unary(e.Name)
	}
	return e.Name == ""
}

// binary tells whether s is what stands between two expressions.
func binary(s string) bool {
	switch s {
	case "+", "-", "*", "/", "%", "@", "<", "<=", "==", "!=", "&&", "||":
		return true
	}
	return false
}

// unary tells whether s is what stands ahead of one expression.
func unary(s string) bool { return s == "-" || s == "!" || s == "#" }

func exprTypeFits(e *api.Expr) bool {
	switch e.Kind {
	case api.EStatic, api.EStatCall, api.ENew, api.ECast, api.EIs:
		return sign.Class(e.Type)
	}
	return e.Type == ""
}

// exprListFits asks how many there are in L; it is false of a Kind that is none.
func exprListFits(e *api.Expr) bool {
	switch e.Kind {
	case api.EInt, api.EBool, api.EText, api.ENull, api.EThis,
		api.EName, api.ESuperName, api.EStatic:
		return len(e.L) == 0
	case api.EField, api.ECast, api.EIs, api.EUn:
		return len(e.L) == 1
	case api.EBin:
		return len(e.L) == 2
	case api.ECall:
		return len(e.L) >= 1
	case api.ESelf, api.ESuperCall, api.EStatCall, api.ENew:
		return true
	}
	return false
}
