package bind

import "changeling/api"

// part is a member of a class (a *api.Field, a ctor, a routine or an unwritten), a statement by what it asks for (a variable, assignment, question, leaving, guard or start), or what is asked of the type of an expression (an anything, a sub or a printed).
type part any

// Members.
type (
	ctor      struct{ *api.Method }
	routine   struct{ *api.Method } // a method that is no constructor
	unwritten struct{}              // the constructor of a class that has none
)

// Statements.
type (
	variable   struct{ *api.Stmt }
	assignment struct{ *api.Stmt }
	question   struct { // one expression, and then what stands within
		*api.Stmt
		wants part
	}
	leaving struct{}            // a return of nothing
	guard   struct{ *api.Stmt } // a try
	start   struct{ *api.Stmt } // a super( .. )
)

// What is asked of a type.
type (
	anything struct{}
	sub      string // a value of it may stand for one of that type
	printed  struct{}
)

// Types that the chapter names.
const (
	integer   = "int"
	boolean   = "boolean"
	text      = "String"
	void      = "void" // what is of it has no value
	exception = "Exception"
)

// membersOf is what of c is to be bound, or looked at, in its turn.
func membersOf(c *api.Class) []part {
	var l []part
	for i := range c.Fields {
		l = append(l, &c.Fields[i])
	}
	written := false
	for i := range c.Methods {
		x := memberOf(&c.Methods[i])
		if _, is := x.(ctor); is {
			written = true
		}
		l = append(l, x)
	}
	if !written {
		l = append(l, unwritten{})
	}
	return l
}

func memberOf(m *api.Method) part {
	if m.Ctor {
		return ctor{m}
	}
	return routine{m}
}

// nameOf is how a place within the member x is told.
func nameOf(x part) string {
	if f, is := x.(*api.Field); is {
		return f.Name
	}
	if r, is := x.(routine); is {
		return r.Name
	}
	return "new"
}

// statementOf is s as a part, in a body whose returns give a value of type gives.
func statementOf(s *api.Stmt, gives string) part {
	switch s.Kind {
	case api.SVar:
		return variable{s}
	case api.SAssign:
		return assignment{s}
	case api.SIf, api.SWhile, api.SAssert:
		return question{s, sub(boolean)}
	case api.SReturn:
		if len(s.E) == 0 {
			return leaving{}
		}
		return question{s, sub(gives)}
	case api.SPrint:
		return question{s, printed{}}
	case api.SThrow:
		return question{s, sub(exception)}
	case api.STry:
		return guard{s}
	case api.SSuper:
		return start{s}
	}
	return question{s, anything{}}
}
