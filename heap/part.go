package heap

import (
	"strings"

	"changeling/api"
)

// part is what has fields: an *object, or the globals; nobody has none.
type part any

// object is an object.
type object struct {
	class string
	chain []bool // of each class of the plan, whether the object has its fields
	set   values
}

// globals are the Static fields of the program.
type globals struct{ set values }

// nobody is what a value stands for that is no object and does not mean the globals.
type nobody struct{}

// values are those that were set. All others are Zeros, so that an object takes memory for what is set in it alone, however many fields it has.
type values map[place]api.Value

// place is where in the plan a field stands: the number of its class, and its own one there.
type place struct{ class, nth int }

// part is what v stands for.
func (h *Heap) part(v api.Value) part {
	switch {
	case h == nil:
		return nobody{}
	case v.Kind == 0:
		return h.globals
	case v.Kind == api.VRef && v.N >= 1 && int(v.N) <= len(h.objects):
		return h.objects[v.N-1]
	}
	return nobody{}
}

// find is the values of what v stands for, and the place of the field t, whose value is one of them; false, if v has no such field.
func (h *Heap) find(v api.Value, t api.Target) (values, place, bool) {
	at, is := h.placeOf(t)
	if !is {
		return nil, place{}, false
	}
	x, static := h.part(v), h.fieldAt(at).Static
	if o, is := x.(*object); is && !static && o.chain[at.class] {
		return o.set, at, true
	}
	if g, is := x.(globals); is && static {
		return g.set, at, true
	}
	return nil, place{}, false
}

// placeOf is where in the plan the field t stands; false, if there is none.
func (h *Heap) placeOf(t api.Target) (place, bool) {
	if h == nil {
		return place{}, false
	}
	i, is := h.places[t.Own]
	if !is || t.Nth < 0 || t.Nth >= len(h.plan.Classes[i].Fields) {
		return place{}, false
	}
	return place{class: i, nth: t.Nth}, true
}

// fieldAt is what the plan tells of the field at that place.
func (h *Heap) fieldAt(at place) api.Field { return h.plan.Classes[at.class].Fields[at.nth] }

// copied is v with a text of its own.
func copied(v api.Value) api.Value {
	v.S = strings.Clone(v.S)
	return v
}
