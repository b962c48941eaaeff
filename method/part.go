package method

import (
	"strconv"

	"changeling/api"
)

// part is a member of a class (a ctor or a routine), or what a method is made of (a *api.Method, *api.Stmt or *api.Expr).
type part any

// ctor is a member that is a constructor.
type ctor struct{ *api.Method }

// routine is a member that is no constructor: what chapter 8 calls a method.
type routine struct{ *api.Method }

func memberOf(m *api.Method) part {
	if m.Ctor {
		return ctor{m}
	}
	return routine{m}
}

// written is the member x as it stands in its class.
func written(x part) *api.Method {
	if c, is := x.(ctor); is {
		return c.Method
	}
	if r, is := x.(routine); is {
		return r.Method
	}
	return &api.Method{}
}

func isCtor(x part) bool {
	_, is := x.(ctor)
	return is
}

// sameAs makes the question whether a member is a method that is Same to m; of a constructor m it is always false.
func sameAs(m part) func(part) bool {
	return func(x part) bool {
		a, isA := m.(routine)
		b, isB := x.(routine)
		return isA && isB && Same(*a.Method, *b.Method)
	}
}

// signature is a text that two methods have in common just if they are Same, and two constructors likewise; a method and a constructor never have.
func signature(x part) string { return string(addSignature(nil, x)) }

// addSignature puts the signature of x behind l.
func addSignature(l []byte, x part) []byte {
	m := written(x)
	if isCtor(x) {
		l = append(l, "new "...)
	}
	l = addText(l, m.Name)
	for _, q := range m.Params {
		l = addText(l, q.Type)
	}
	return l
}

// addText puts s behind l with its length ahead, for a text may have any byte.
func addText(l []byte, s string) []byte {
	l = strconv.AppendInt(l, int64(len(s)), 10)
	l = append(l, ' ')
	return append(l, s...)
}
