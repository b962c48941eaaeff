package show

import (
	"slices"

	"changeling/api"
)

// method is a method, or a constructor, of the class own.
type method struct {
	*api.Method
	own string
}

func programParts(p api.Program) []part {
	var l []part
	for i := range p.Classes {
		l = append(l, &p.Classes[i])
	}
	return l
}

func classParts(c *api.Class) []part {
	l := []part{"class ", c.Name}
	if c.Super != "" {
		l = append(l, " extends ", c.Super)
	}
	l = append(l, " {\n")
	for i := range c.Fields {
		l = append(l, &c.Fields[i])
	}
	for i := range c.Methods {
		l = append(l, method{&c.Methods[i], c.Name})
	}
	return append(l, "}\n")
}

func fieldParts(f *api.Field) []part {
	l := []part{margin(step), static(f.Static), f.Type, " ", f.Name}
	if len(f.Init) > 0 {
		l = append(l, " = ", exprAt(f.Init, 0))
	}
	return append(l, ";\n")
}

func (m method) parts() []part {
	return slices.Concat([]part{margin(step)}, m.head(), []part{" "}, block(m.Body, step), []part{"\n"})
}

// head is what stands ahead of the Body.
func (m method) head() []part {
	l := []part{static(m.Static), m.Type, " ", m.Name, "("}
	if m.Ctor {
		l = []part{m.own, "("}
	}
	for i, p := range m.Params {
		if i > 0 {
			l = append(l, ", ")
		}
		l = append(l, p.Type, " ", p.Name)
	}
	return append(l, ")")
}

// static is the word with which what is static begins.
func static(is bool) string {
	if is {
		return "static "
	}
	return ""
}
