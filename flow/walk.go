package flow

import "changeling/api"

// place is where the statements of a list stand, and how many they are: lists with one place are one list, and so are all empty ones.
type place struct {
	first *api.Stmt
	n     int
}

// list is a list of statements.
type list struct {
	stmts   []api.Stmt
	left    int   // how many of them are not passed as yet; with none left, its end is come to
	waiting []int // the steps that hang on its end
}

// step is a part of a list that is passed only by what stands within it.
type step struct {
	of     int // the number of the list
	what   part
	passed bool
}

// walk is all lists on the way, each once: it keeps numbers of lists instead of calling itself, so that lists may be deeper than a stack can be, stand in several places, or within themselves.
type walk struct {
	numbers map[place]int
	lists   []list
	steps   []step
}

// number is that of the list l, which is a new one the first time.
func (w *walk) number(l []api.Stmt) int {
	at := place{n: len(l)}
	if len(l) > 0 {
		at.first = &l[0]
	}
	n, is := w.numbers[at]
	if !is {
		n = len(w.lists)
		w.numbers[at] = n
		w.lists = append(w.lists, list{stmts: l, left: len(l)})
	}
	return n
}

// part is s as a part.
func (w *walk) part(s *api.Stmt) part {
	switch s.Kind {
	case api.SReturn, api.SThrow:
		return stop{}
	case api.SWhile:
		if endless(s.E) {
			return stop{}
		}
	case api.SIf:
		return either{w.number(s.A), w.number(s.B)}
	case api.STry:
		return guarded{either{w.number(s.A), w.number(s.B)}, w.number(s.C)}
	}
	return plain{}
}

// lay goes over all statements of all lists; those that it meets within come to be lists behind.
func (w *walk) lay() {
	for n := 0; n < len(w.lists); n++ {
		stmts := w.lists[n].stmts
		for i := range stmts {
			w.add(n, w.part(&stmts[i]))
		}
	}
}

// add puts the part x into the list of that number.
func (w *walk) add(of int, x part) {
	if _, is := x.(plain); is {
		w.lists[of].left--
		return
	}
	for _, n := range needs(x) {
		w.lists[n].waiting = append(w.lists[n].waiting, len(w.steps))
	}
	w.steps = append(w.steps, step{of: of, what: x})
}

// end passes what can be passed, beginning with the lists whose end is come to at once.
func (w *walk) end() {
	var ended []int
	for n, l := range w.lists {
		if l.left == 0 {
			ended = append(ended, n)
		}
	}
	for len(ended) > 0 {
		last := len(ended) - 1
		n := ended[last]
		ended = ended[:last]
		for _, k := range w.lists[n].waiting {
			s := &w.steps[k]
			if s.passed || !w.passes(s.what) {
				continue
			}
			s.passed = true
			w.lists[s.of].left--
			if w.lists[s.of].left == 0 {
				ended = append(ended, s.of)
			}
		}
	}
}

// passes tells whether enough of what x needs has come to its end.
func (w *walk) passes(x part) bool {
	if e, is := x.(either); is {
		return w.ends(e.a) || w.ends(e.b)
	}
	g, is := x.(guarded)
	return is && w.passes(g.either) && w.ends(g.c)
}

func (w *walk) ends(n int) bool { return w.lists[n].left == 0 }
