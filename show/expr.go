package show

import (
	"slices"
	"strconv"

	"changeling/api"
	"changeling/sign"
)

// exprParts is what e is shown by; the empty text, if its Kind is none.
func exprParts(e *api.Expr) []part {
	switch e.Kind {
	case api.EName, api.ESuperName, api.EStatic:
		return []part{origin(e), e.Name}
	case api.ESelf, api.ESuperCall, api.EStatCall:
		return slices.Concat([]part{origin(e), e.Name}, args(e.L))
	case api.ENew:
		return slices.Concat([]part{"new ", e.Type}, args(e.L))
	case api.EField:
		return append(followed(e), ".", e.Name)
	case api.ECall:
		return slices.Concat(followed(e), []part{".", e.Name}, args(behindFirst(e.L)))
	case api.ECast:
		return append(followed(e), " as ", e.Type)
	case api.EIs:
		return append(followed(e), " is ", e.Type)
	case api.EBin:
		return slices.Concat(operand(e, 0), []part{" ", e.Name, " "}, operand(e, 1))
	case api.EUn:
		return slices.Concat([]part{e.Name}, operand(e, 0))
	}
	return []part{literal(e)}
}

// literal is what e is, if nothing in it has a name.
func literal(e *api.Expr) string {
	switch e.Kind {
	case api.EInt:
		return decimal(e.Num)
	case api.EBool:
		return strconv.FormatBool(e.Num != 0)
	case api.EText:
		return sign.Quote(e.Text)
	case api.ENull:
		return "null"
	case api.EThis:
		return "this"
	}
	return ""
}

func decimal(n int32) string { return strconv.FormatInt(int64(n), 10) }

// origin is what stands ahead of the name of what e is: where that comes from, if it is told.
func origin(e *api.Expr) string {
	switch e.Kind {
	case api.ESuperName, api.ESuperCall:
		return "super."
	case api.EStatic, api.EStatCall:
		return e.Type + "::"
	}
	return ""
}

// operand is the part of that place in an EBin or EUn.
func operand(e *api.Expr, place int) []part {
	x := exprAt(e.L, place)
	return bracketed(x, x.Kind == api.EBin)
}

// followed is the part of e behind which a ., as or is stands.
func followed(e *api.Expr) []part {
	x := exprAt(e.L, 0)
	return bracketed(x, x.Kind == api.EBin || x.Kind == api.EUn)
}

// bracketed is x, with ( ) around it where they must be.
func bracketed(x *api.Expr, must bool) []part {
	if must {
		return []part{"(", x, ")"}
	}
	return []part{x}
}

// args is ( ARGS ).
func args(l []api.Expr) []part {
	parts := []part{"("}
	for i := range l {
		if i > 0 {
			parts = append(parts, ", ")
		}
		parts = append(parts, &l[i])
	}
	return append(parts, ")")
}

// exprAt is the one at that place of l; where none is, one of no Kind, of which nothing is shown.
func exprAt(l []api.Expr, place int) *api.Expr {
	if place >= len(l) {
		return &api.Expr{}
	}
	return &l[place]
}

// behindFirst is l without its first expression.
func behindFirst(l []api.Expr) []api.Expr { return l[min(1, len(l)):] }
