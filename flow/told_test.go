package flow_test

import (
	"math/rand"
	"testing"

	"changeling/api"
	"changeling/flow"
)

// toldPasses is the chapter's words again.
func toldPasses(l []api.Stmt) bool {
	for _, s := range l {
		if !toldOne(s) {
			return false
		}
	}
	return true
}

func toldOne(s api.Stmt) bool {
	switch s.Kind {
	case api.SReturn, api.SThrow:
		return false
	case api.SIf:
		return toldPasses(s.A) || toldPasses(s.B)
	case api.SWhile:
		return len(s.E) == 0 || s.E[0].Kind != api.EBool || s.E[0].Num != 1
	case api.STry:
		return (toldPasses(s.A) || toldPasses(s.B)) && toldPasses(s.C)
	}
	return true
}

// shorts are all lists of at most two of some statements, which stand within one another that deep.
func shorts(deep int) [][]api.Stmt {
	one := []api.Stmt{{Kind: api.SPrint}, {Kind: api.SReturn}}
	if deep > 0 {
		blocks := shorts(deep - 1)
		for _, a := range blocks {
			one = append(one, api.Stmt{Kind: api.SWhile, E: []api.Expr{{Kind: api.EBool, Num: int32(len(a))}}, A: a})
			for _, b := range blocks {
				one = append(one, api.Stmt{Kind: api.SIf, A: a, B: b})
				for _, c := range blocks {
					one = append(one, api.Stmt{Kind: api.STry, A: a, B: b, C: c})
				}
			}
		}
	}
	l := [][]api.Stmt{nil}
	for _, a := range one {
		l = append(l, []api.Stmt{a})
		for _, b := range one {
			l = append(l, []api.Stmt{a, b})
		}
	}
	return l
}

// TestAllShort holds each short list against the chapter's words.
func TestAllShort(t *testing.T) {
	l := shorts(1)
	passed := 0
	for _, x := range l {
		want := toldPasses(x)
		if flow.Passes(x) != want || flow.Check(api.Method{Type: "int", Body: x}) == want {
			t.Fatal(x)
		}
		if want {
			passed++
		}
	}
	if len(l) < 10000 || passed < len(l)/10 || passed > len(l)*9/10 {
		t.Error("one-sided:", passed, "of", len(l))
	}
}

// lotStmts is a list by lot, with wrong Kinds and missing parts among it.
func lotStmts(r *rand.Rand, deep int) []api.Stmt {
	l := make([]api.Stmt, r.Intn(4))
	for i := range l {
		s := api.Stmt{Kind: r.Intn(14) - 1}
		if r.Intn(2) == 0 {
			s.Kind = [4]int{api.SIf, api.STry, api.SWhile, api.SPrint}[r.Intn(4)]
		}
		if r.Intn(4) > 0 {
			s.E = []api.Expr{{Kind: api.EBool + r.Intn(4)/3, Num: int32(r.Intn(2))}}
		}
		if deep > 0 {
			s.A, s.B, s.C = lotStmts(r, deep-1), lotStmts(r, deep-1), lotStmts(r, deep-1)
		}
		l[i] = s
	}
	return l
}

// TestLot holds lists by lot against the chapter's words.
func TestLot(t *testing.T) {
	r := rand.New(rand.NewSource(11))
	passed, all := 0, 20000
	for range all {
		l := lotStmts(r, r.Intn(5))
		want := toldPasses(l)
		if flow.Passes(l) != want {
			t.Fatal(l)
		}
		if want {
			passed++
		}
	}
	if passed < all/10 || passed > all*9/10 {
		t.Error("one-sided:", passed, "of", all)
	}
}

// Ways in which a list may end as it goes.
const (
	goesOn = 1 << iota
	returns
	throws
)

// goes is all ways in which l may end, where each condition may be true or false, but that of while (true), and each statement may throw.
func goes(l []api.Stmt) int {
	ways := goesOn
	for _, s := range l {
		if ways&goesOn != 0 {
			ways = ways&^goesOn | throws | goesOne(s)
		}
	}
	return ways
}

func goesOne(s api.Stmt) int {
	switch s.Kind {
	case api.SReturn:
		return returns
	case api.SThrow:
		return throws
	case api.SIf:
		return goes(s.A) | goes(s.B)
	case api.SWhile:
		if len(s.E) > 0 && s.E[0].Kind == api.EBool && s.E[0].Num == 1 {
			return goes(s.A) &^ goesOn
		}
		return goes(s.A) | goesOn
	case api.STry:
		ways := goes(s.A)
		if ways&throws != 0 {
			ways |= goes(s.B)
		}
		last := goes(s.C)
		if last&goesOn == 0 {
			return last
		}
		return ways | last&^goesOn
	}
	return goesOn
}

// TestGivesValue is 11.2: a method that Check lets be, and that promises a value, never goes on behind its Body; and none is refused for nothing.
func TestGivesValue(t *testing.T) {
	for _, l := range shorts(1) {
		if flow.Check(api.Method{Type: "int", Body: l}) != (goes(l)&goesOn == 0) {
			t.Fatal(l)
		}
	}
	r := rand.New(rand.NewSource(112))
	for range 20000 {
		l := lotStmts(r, r.Intn(5))
		if flow.Check(api.Method{Type: "A", Body: l}) != (goes(l)&goesOn == 0) {
			t.Fatal(l)
		}
	}
}
