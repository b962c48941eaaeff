package heap

import (
	"strings"

	"changeling/api"
	"changeling/field"
)

// planOf is p with nothing but the names and Supers of its classes, and which of their fields are Static, of which Types, in memory of its own.
func planOf(p api.Program) api.Program {
	plan := api.Program{Classes: make([]api.Class, len(p.Classes))}
	for i, c := range p.Classes {
		l := make([]api.Field, len(c.Fields))
		for k, f := range c.Fields {
			l[k] = api.Field{Static: f.Static, Type: strings.Clone(f.Type)}
		}
		plan.Classes[i] = api.Class{Name: strings.Clone(c.Name), Super: strings.Clone(c.Super), Fields: l}
	}
	return plan
}

// placesOf is of each class of that plan its place there.
func placesOf(plan api.Program) map[string]int {
	at := make(map[string]int, len(plan.Classes))
	for i, c := range plan.Classes {
		at[c.Name] = i
	}
	return at
}

// has tells whether there is a class of that name: in the program, or a base one.
func (h *Heap) has(class string) bool {
	_, is := h.places[class]
	return is || isBase(class)
}

// isBase tells whether a class of that name is there beside those of each program.
func isBase(class string) bool {
	// Such a name is the only thing that may be wrong in a class that has nothing but its name.
	code, _ := field.Check(api.Program{Classes: []api.Class{{Name: class}}})
	return code != api.OK
}

// chainOf tells of each class of the plan whether an object of the class of that name has its fields.
func (h *Heap) chainOf(class string) []bool {
	// Objects of one class share it: field.All looks at the whole program each time.
	for _, o := range h.objects {
		if o.class == class {
			return o.chain
		}
	}
	l := make([]bool, len(h.plan.Classes))
	for _, t := range field.All(h.plan, class) {
		l[h.places[t.Own]] = true
	}
	return l
}
