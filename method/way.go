package method

import (
	"iter"

	"changeling/api"
)

// step is that a class, told by its number, is entered, or left.
type step struct {
	class   int
	entered bool
}

// ways goes to each class of p (no class of which is wrong), told by its number, twice: true, and then, when it has been to all those below it, false.
// It keeps a pile of what is to come, and does not call itself: a Chain may be longer than a stack can be.
func ways(p api.Program) iter.Seq2[int, bool] {
	return func(yield func(int, bool) bool) {
		below, tops := belows(p)
		pile := addSteps(nil, tops)
		for len(pile) > 0 {
			last := len(pile) - 1
			s := pile[last]
			pile = pile[:last]
			if !yield(s.class, s.entered) {
				return
			}
			if s.entered {
				pile = append(pile, step{class: s.class})
				pile = addSteps(pile, below[s.class])
			}
		}
	}
}

func addSteps(pile []step, classes []int) []step {
	for _, i := range classes {
		pile = append(pile, step{class: i, entered: true})
	}
	return pile
}

// belows is of each class of p the classes right below it, and those that are below none of p.
func belows(p api.Program) (below [][]int, tops []int) {
	at := make(map[string]int, len(p.Classes))
	for i, c := range p.Classes {
		at[c.Name] = i
	}
	below = make([][]int, len(p.Classes))
	for i, c := range p.Classes {
		// The class with the empty name may be its own Super, and is the end of its Chain then (6.1).
		if up, is := at[c.Super]; is && up != i {
			below[up] = append(below[up], i)
		} else {
			tops = append(tops, i)
		}
	}
	return below, tops
}
