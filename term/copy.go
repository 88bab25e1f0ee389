package term

import (
	"slices"

	"pigeonhole/api"
)

// maxApart is how many terms are copied one by one, however often they stand in memory.
const maxApart = 1 << 16

// Copy is t in memory of its own.
func Copy(t api.Term) api.Term {
	return fresh([]api.Term{t})[0]
}

// fresh is the rows' terms one behind another, all of them in new memory.
// What is still to be copied stands in a row of its own, not on the stack: Copy is for any term, however deep.
func fresh(rows ...[]api.Term) []api.Term {
	out := slices.Concat(rows...)
	todo := [][]api.Term{out}
	cloned := cloning()
	inside := func(row []api.Term) []api.Term {
		row, isNew := cloned(row)
		if isNew {
			todo = append(todo, row)
		}
		return row
	}
	for len(todo) > 0 {
		row := todo[len(todo)-1]
		todo = todo[:len(todo)-1]
		for i := range row {
			row[i].Limbs = slices.Clone(row[i].Limbs)
			row[i].Items = inside(row[i].Items)
			row[i].Tail = inside(row[i].Tail)
		}
	}
	return out
}

// place is where a row stands.
type place struct {
	first *api.Term
	count int
}

// cloning clones rows, each time anew, till there are maxApart terms; from there on each place once.
// A term that leads back into itself would otherwise have no end; its copy leads back into itself too.
func cloning() func(row []api.Term) (clone []api.Term, isNew bool) {
	left := maxApart
	var made map[place][]api.Term
	return func(row []api.Term) ([]api.Term, bool) {
		left -= len(row)
		if len(row) == 0 || left >= 0 {
			return slices.Clone(row), len(row) > 0
		}
		if made == nil {
			made = map[place][]api.Term{}
		}
		at := place{&row[0], len(row)}
		if clone, ok := made[at]; ok {
			return clone, false
		}
		clone := slices.Clone(row)
		made[at] = clone
		return clone, true
	}
}
