package show

import (
	"slices"

	"changeling/api"
)

// step is how much deeper a BLOCK's statements are than what it belongs to.
const step = 2

// line is a statement, and how deep it is.
type line struct {
	stmt *api.Stmt
	deep int
}

// parts is what l is shown by; nothing, if its Kind is none.
func (l line) parts() []part {
	words := l.words()
	if len(words) == 0 {
		return nil
	}
	return slices.Concat([]part{margin(l.deep)}, words, []part{"\n"})
}

// words is l without its margin and its end.
func (l line) words() []part {
	s := l.stmt
	first := exprAt(s.E, 0)
	switch s.Kind {
	case api.SVar:
		return []part{s.Type, " ", s.Name, " = ", first, ";"}
	case api.SAssign:
		return []part{first, " = ", exprAt(s.E, 1), ";"}
	case api.SExpr:
		return []part{first, ";"}
	case api.SIf:
		return l.choice()
	case api.SWhile:
		return slices.Concat([]part{"while (", first, ") "}, block(s.A, l.deep))
	case api.SReturn:
		if len(s.E) == 0 {
			return []part{"return;"}
		}
		return []part{"return ", first, ";"}
	case api.SPrint:
		return []part{"print ", first, ";"}
	case api.SAssert:
		return []part{"assert ", decimal(s.Num), " ", first, ";"}
	case api.SThrow:
		return []part{"throw ", first, ";"}
	case api.STry:
		return l.attempt()
	case api.SSuper:
		return slices.Concat([]part{"super"}, args(s.E), []part{";"})
	}
	return nil
}

// choice is the words of an SIf.
func (l line) choice() []part {
	s := l.stmt
	return slices.Concat(
		[]part{"if (", exprAt(s.E, 0), ") "}, block(s.A, l.deep),
		perhaps(" else ", s.B, l.deep))
}

// attempt is the words of an STry.
func (l line) attempt() []part {
	s := l.stmt
	return slices.Concat(
		[]part{"try "}, block(s.A, l.deep),
		[]part{" catch (", s.Type, " ", s.Name, ") "}, block(s.B, l.deep),
		perhaps(" finally ", s.C, l.deep))
}

// perhaps is a word and a BLOCK behind it, or nothing, if no statement is there.
func perhaps(word string, l []api.Stmt, deep int) []part {
	if len(l) == 0 {
		return nil
	}
	return slices.Concat([]part{word}, block(l, deep))
}

// block is a BLOCK of what is that deep itself.
func block(l []api.Stmt, deep int) []part {
	parts := []part{"{\n"}
	for i := range l {
		parts = append(parts, line{&l[i], deep + step})
	}
	return append(parts, margin(deep), "}")
}
