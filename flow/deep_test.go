package flow_test

import (
	"testing"

	"changeling/api"
	"changeling/flow"
)

const many = 300000

// nest is a list that deep, of statements that hold the next list where in says it, around l.
func nest(deep int, l []api.Stmt, in func(l []api.Stmt) api.Stmt) []api.Stmt {
	for range deep {
		l = []api.Stmt{in(l)}
	}
	return l
}

// TestDeep is rule 1 of the document: lists deeper than a stack can be, and very long ones.
func TestDeep(t *testing.T) {
	stop := []api.Stmt{{Kind: api.SReturn}}
	ways := []func(l []api.Stmt) api.Stmt{
		func(l []api.Stmt) api.Stmt { return api.Stmt{Kind: api.SIf, A: l, B: stop} },
		func(l []api.Stmt) api.Stmt { return api.Stmt{Kind: api.SIf, A: stop, B: l} },
		func(l []api.Stmt) api.Stmt { return api.Stmt{Kind: api.STry, A: l, B: stop} },
		func(l []api.Stmt) api.Stmt { return api.Stmt{Kind: api.STry, A: stop, B: l} },
		func(l []api.Stmt) api.Stmt { return api.Stmt{Kind: api.STry, C: l} },
		func(l []api.Stmt) api.Stmt { return api.Stmt{Kind: api.STry, A: l, B: l, C: l} },
		func(l []api.Stmt) api.Stmt { return api.Stmt{Kind: api.SIf, A: l, B: l} },
	}
	for i, in := range ways {
		if flow.Passes(nest(many, stop, in)) {
			t.Error("stop", i)
		}
		if !flow.Passes(nest(many, nil, in)) {
			t.Error("pass", i)
		}
	}
	long := make([]api.Stmt, many)
	if !flow.Passes(long) {
		t.Error("long")
	}
	long[many-1].Kind = api.SThrow
	if flow.Passes(long) || !flow.Passes(long[:many-1]) {
		t.Error("long, at its end")
	}
	for i := range long {
		long[i] = api.Stmt{Kind: api.STry, A: stop, B: []api.Stmt{{}}, C: []api.Stmt{}}
	}
	if !flow.Passes(long) {
		t.Error("long, of others")
	}
	long[0].B = stop
	if flow.Passes(long) {
		t.Error("long, at its beginning")
	}
}

// TestWithin: a list that stands within itself has an end only where one comes to it by another way.
func TestWithin(t *testing.T) {
	stop := []api.Stmt{{Kind: api.SReturn}}
	for i, x := range []struct {
		s    func(l []api.Stmt) api.Stmt
		want bool
	}{
		{func(l []api.Stmt) api.Stmt { return api.Stmt{Kind: api.SIf, A: l} }, true},
		{func(l []api.Stmt) api.Stmt { return api.Stmt{Kind: api.SIf, A: l, B: l} }, false},
		{func(l []api.Stmt) api.Stmt { return api.Stmt{Kind: api.SIf, A: l, B: stop} }, false},
		{func(l []api.Stmt) api.Stmt { return api.Stmt{Kind: api.STry, A: l} }, true},
		{func(l []api.Stmt) api.Stmt { return api.Stmt{Kind: api.STry, C: l} }, false},
		{func(l []api.Stmt) api.Stmt { return api.Stmt{Kind: api.SWhile, A: l} }, true},
	} {
		l := make([]api.Stmt, 1)
		l[0] = x.s(l)
		if flow.Passes(l) != x.want || flow.Check(api.Method{Type: "int", Body: l}) == x.want {
			t.Error(i)
		}
	}
	two := make([]api.Stmt, 2)
	two[0] = api.Stmt{Kind: api.SIf, A: two[1:], B: two}
	two[1] = api.Stmt{Kind: api.SIf, A: two[:1]}
	if !flow.Passes(two) {
		t.Error("two")
	}
}
