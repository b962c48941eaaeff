package typing

import "changeling/api"

// part is an expression, by what its type hangs on: a plain, this, use, call, creation, look or operation.
// Within a use or a call it is where the member is sought: a value, class, here or above.
type part any

// Expressions; the types of what stands in L are known.
type (
	plain string // what it stands for is of that type, whatever else there is
	this  struct{}
	use   struct { // of a field
		from part
		name string
	}
	call struct { // of a method
		from part
		name string
		args []string
	}
	creation struct {
		class string
		args  []string
	}
	look struct { // at a value: whether it is of a class
		of, class string
		answer    string // the type of what comes of it
	}
	operation struct {
		sign string
		of   []string
	}
)

// Where a member is sought.
type (
	value string // in the class of a value of that type
	class string // in the class that is written ahead of ::
	here  struct{}
	above struct{} // behind super
)

// Types that are no classes: what is void has no value, and null's is written nowhere.
const (
	integer = "int"
	boolean = "boolean"
	text    = "String"
	void    = "void"
	null    = "null"
)

// partOf is e, of which the parts have those types.
func (b binder) partOf(e api.Expr, types []string) part {
	switch e.Kind {
	case api.EInt:
		return plain(integer)
	case api.EBool:
		return plain(boolean)
	case api.EText:
		return plain(text)
	case api.ENull:
		return plain(null)
	case api.EThis:
		return this{}
	case api.EName:
		if t := Var(b.scope, e.Name); t != "" {
			return plain(t)
		}
		return use{here{}, e.Name}
	case api.EField:
		return use{value(types[0]), e.Name}
	case api.ESuperName:
		return use{above{}, e.Name}
	case api.EStatic:
		return use{class(e.Type), e.Name}
	case api.ECall:
		return call{value(types[0]), e.Name, types[1:]}
	case api.ESelf:
		return call{here{}, e.Name, types}
	case api.ESuperCall:
		return call{above{}, e.Name, types}
	case api.EStatCall:
		return call{class(e.Type), e.Name, types}
	case api.ENew:
		return creation{e.Type, types}
	case api.ECast:
		return look{types[0], e.Type, e.Type}
	case api.EIs:
		return look{types[0], e.Type, boolean}
	}
	return operation{e.Name, types}
}
