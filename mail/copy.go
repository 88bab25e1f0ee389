package mail

import (
	"slices"

	"pigeonhole/api"
)

const (
	// maxApart is how many terms, and how many limbs, of a letter that is handed out are cloned one by one, however often they stand in memory.
	maxApart = 1 << 16

	// maxDeep is how often a closure calls itself.
	maxDeep = 100
)

// copies are the letters, each of them copied.
func copies(letters []api.Term, apart int) []api.Term {
	out := make([]api.Term, len(letters))
	for i, t := range letters {
		out[i] = copied(t, apart)
	}
	return out
}

// copied is t in memory of its own; apart is as cloning says.
// What is too deep for the closure waits in a row: a letter may be any term, however deep, and the stack has an end.
func copied(t api.Term, apart int) api.Term {
	terms, limbs := cloning[api.Term](apart), cloning[uint32](apart)
	out := []api.Term{t}
	waiting := [][]api.Term{out}
	var renew func(row []api.Term, deep int)
	renew = func(row []api.Term, deep int) {
		for i := range row {
			row[i].Limbs, _ = limbs(row[i].Limbs)
			for _, part := range [...]*[]api.Term{&row[i].Items, &row[i].Tail} {
				clone, isNew := terms(*part)
				*part = clone
				switch {
				case isNew && deep < maxDeep:
					renew(clone, deep+1)
				case isNew:
					waiting = append(waiting, clone)
				}
			}
		}
	}
	for len(waiting) > 0 {
		last := len(waiting) - 1
		row := waiting[last]
		waiting = waiting[:last]
		renew(row, 0)
	}
	return out[0]
}

// place is where a row stands.
type place[T any] struct {
	first *T
	count int
}

// cloning clones rows, each time anew, till there are apart elements; from there on each place once.
// A term that leads back into itself would otherwise have no end; its copy leads back into itself too.
// In a box letters share what they shared as they came (apart is 0), so that copies of copies do not grow.
func cloning[T any](apart int) func(row []T) (clone []T, isNew bool) {
	left := apart
	var made map[place[T]][]T
	return func(row []T) ([]T, bool) {
		if len(row) == 0 {
			return nil, false
		}
		left = max(left-len(row), -1)
		if left >= 0 {
			return slices.Clone(row), true
		}
		if made == nil {
			made = map[place[T]][]T{}
		}
		at := place[T]{&row[0], len(row)}
		if clone, ok := made[at]; ok {
			return clone, false
		}
		clone := slices.Clone(row)
		made[at] = clone
		return clone, true
	}
}
