package parse

import (
	"math"

	"changeling/api"
)

// loosest is the tightness of what binds the least.
const loosest = 1

func (r *reader) expr() api.Expr { return r.joined(loosest) }

// joined reads what signs between join that are as tight as least, or tighter.
func (r *reader) joined(least int) api.Expr {
	e := r.signed()
	for {
		op, is := r.ahead(0).(fixed)
		tight := tightness(op)
		if !is || tight < least {
			return e
		}
		r.skip()
		// What stands behind is tighter, so that equal ones are joined from the left.
		e = api.Expr{Kind: api.EBin, Name: string(op), L: []api.Expr{e, r.joined(tight + 1)}}
	}
}

// tightness is how tight s binds what stands on both its sides; 0, if it does not stand between expressions.
func tightness(s fixed) int {
	switch s {
	case "||":
		return loosest
	case "&&":
		return 2
	case "==", "!=":
		return 3
	case "<", "<=":
		return 4
	case "+", "-":
		return 5
	case "*", "/", "%", "@":
		return 6
	}
	return 0
}

// signed reads an atom with what stands behind it, and the signs ahead of it.
func (r *reader) signed() api.Expr {
	for _, op := range [...]fixed{"-", "!", "#"} {
		if r.sees(op) {
			r.enter(op)
			e := r.signed()
			r.open--
			return api.Expr{Kind: api.EUn, Name: string(op), L: []api.Expr{e}}
		}
	}
	return r.followed()
}

// followed reads an atom, and what stands behind it.
func (r *reader) followed() api.Expr {
	e := r.atom()
	for {
		switch {
		case r.take("."):
			e = r.used(api.Expr{L: []api.Expr{e}}, api.EField, api.ECall)
		case r.take("as"):
			e = api.Expr{Kind: api.ECast, Type: r.class(), L: []api.Expr{e}}
		case r.take("is"):
			e = api.Expr{Kind: api.EIs, Type: r.class(), L: []api.Expr{e}}
		default:
			return e
		}
	}
}

// used reads NAME or NAME ( ARGS ), of which e has the rest: it is of one Kind or of the other.
func (r *reader) used(e api.Expr, plain, call int) api.Expr {
	e.Kind, e.Name = plain, r.name()
	if r.sees("(") {
		e.Kind = call
		e.L = append(e.L, r.args()...)
	}
	return e
}

// args reads ( ARGS ).
func (r *reader) args() []api.Expr {
	r.enter("(")
	l := listed(r, (*reader).expr)
	r.leave(")")
	return l
}

func (r *reader) atom() api.Expr {
	if _, is := r.ahead(0).(number); is {
		return api.Expr{Kind: api.EInt, Num: r.number(math.MaxInt32)}
	}
	if t, is := r.ahead(0).(quoted); is {
		r.skip()
		return api.Expr{Kind: api.EText, Text: string(t)}
	}
	if _, is := r.ahead(0).(name); is {
		return r.used(api.Expr{}, api.EName, api.ESelf)
	}
	if _, is := r.ahead(0).(class); is {
		return r.ofClass()
	}
	return r.fixedAtom()
}

// ofClass reads an atom that begins with CLASS.
func (r *reader) ofClass() api.Expr {
	e := api.Expr{Type: r.class()}
	r.need("::")
	return r.used(e, api.EStatic, api.EStatCall)
}

// fixedAtom reads an atom that begins with a sign or a word of the language.
func (r *reader) fixedAtom() api.Expr {
	switch {
	case r.take("true"):
		return api.Expr{Kind: api.EBool, Num: 1}
	case r.take("false"):
		return api.Expr{Kind: api.EBool}
	case r.take("null"):
		return api.Expr{Kind: api.ENull}
	case r.take("this"):
		return api.Expr{Kind: api.EThis}
	case r.take("super"):
		r.need(".")
		return r.used(api.Expr{}, api.ESuperName, api.ESuperCall)
	case r.take("new"):
		return api.Expr{Kind: api.ENew, Type: r.class(), L: r.args()}
	case r.sees("("):
		return r.inBrackets()
	}
	r.fail(api.ErrParse)
	return api.Expr{}
}

// inBrackets reads ( EXPR ), of which nothing but the EXPR is kept.
func (r *reader) inBrackets() api.Expr {
	r.enter("(")
	e := r.expr()
	r.leave(")")
	return e
}
