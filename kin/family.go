package kin

import (
	"slices"

	"changeling/api"
)

// part is a class: a base one, or a *api.Class, which is one of a program.
type part any

// base is a class that is there beside those of each program.
type base struct{ name, super string }

func bases() []part {
	const top = "Exception"
	return []part{
		base{name: top},
		base{name: "NullFault", super: top},
		base{name: "CastFault", super: top},
		base{name: "ZeroFault", super: top},
		base{name: "RangeFault", super: top},
	}
}

// head is the name of x, and that of its Super.
func head(x part) (name, super string) {
	if b, is := x.(base); is {
		return b.name, b.super
	}
	if c, is := x.(*api.Class); is {
		return c.Name, c.Super
	}
	return "", ""
}

// few is up to how many parts are looked at one by one, which is quicker than to make a map of them.
const few = 64

// family is the base classes, and behind them those of a program: of two with one name the first one is meant.
type family struct {
	parts []part
	own   int            // the place of the program's first class
	first map[string]int // of each name the first place; nil, if the parts are few
}

func familyOf(p api.Program) family {
	parts := slices.Grow(bases(), len(p.Classes))
	f := family{own: len(parts)}
	for i := range p.Classes {
		parts = append(parts, &p.Classes[i])
	}
	f.parts = parts
	if len(parts) > few {
		f.first = firstPlaces(parts)
	}
	return f
}

func firstPlaces(parts []part) map[string]int {
	first := make(map[string]int, len(parts))
	for i, x := range slices.Backward(parts) {
		name, _ := head(x)
		first[name] = i
	}
	return first
}

// none is the place of what is no class.
func (f family) none() int { return len(f.parts) }

// place is where the class of that name is.
func (f family) place(name string) int {
	if f.first != nil {
		if i, is := f.first[name]; is {
			return i
		}
		return f.none()
	}
	for i, x := range f.parts {
		if s, _ := head(x); s == name {
			return i
		}
	}
	return f.none()
}

func (f family) has(name string) bool { return f.place(name) != f.none() }

// up is the place of the Super of the class at that place.
func (f family) up(place int) int {
	_, super := head(f.parts[place])
	return f.place(super)
}

// chain is the places of the class of that name, of its Super, and so on.
func (f family) chain(name string) []int {
	seen := make([]bool, len(f.parts)+1)
	seen[f.none()] = true
	var l []int
	for i := f.place(name); !seen[i]; i = f.up(i) {
		seen[i] = true
		l = append(l, i)
	}
	return l
}

// mark is what is known of a place while the ways up are gone.
type mark int

const (
	fresh  mark = iota // nothing yet
	passed             // a way has come by, and is not known to come to the goal
	leads              // the way up from here comes to the goal, or it is the goal
)

// marked is the marks of all places, and of none, for that goal.
// Each place is passed once, however long the ways are, and whether they end or not.
func (f family) marked(goal int) []mark {
	marks := make([]mark, len(f.parts)+1)
	marks[f.none()] = passed
	marks[goal] = leads
	var way []int
	for at := range f.parts {
		way = way[:0]
		for ; marks[at] == fresh; at = f.up(at) {
			marks[at] = passed
			way = append(way, at)
		}
		if marks[at] == leads {
			for _, i := range way {
				marks[i] = leads
			}
		}
	}
	return marks
}
