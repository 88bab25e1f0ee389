package node

import (
	"math"
	"slices"

	"pigeonhole/api"
)

// Deep and Same are for any nodes: for such as are deeper than the stack has room, have kids in common
// (small in memory, without number as a tree), or lead back into themselves. So what is still to be done
// stands in a row, and each row of kids is gone through once, told by its place.

// place is where a row of kids stands.
type place struct {
	first *api.Node
	count int
}

func placeOf(row []api.Node) place {
	if len(row) == 0 {
		return place{}
	}
	return place{&row[0], len(row)}
}

// unknown is the depth of a row that is being gone through.
const unknown = -1

// Deep is how deep n is; math.MaxInt, if it leads back into itself.
func Deep(n api.Node) int {
	depths := map[place]int{placeOf(nil): 0}
	top := []api.Node{n}
	todo := [][]api.Node{top}
	for len(todo) > 0 {
		row := todo[len(todo)-1]
		switch depth, met := depths[placeOf(row)]; {
		case !met:
			depths[placeOf(row)] = unknown
			inside, ends := unmet(row, depths)
			if !ends {
				return math.MaxInt
			}
			todo = append(todo, inside...)
			continue
		case depth == unknown:
			depths[placeOf(row)] = 1 + deepest(row, func(n api.Node) int { return depths[placeOf(n.Kids)] })
		}
		todo = todo[:len(todo)-1]
	}
	return depths[placeOf(top)]
}

// unmet is the rows right within this one that have no depth yet.
// One whose depth is unknown stands above this one: there is no end then.
func unmet(row []api.Node, depths map[place]int) (rows [][]api.Node, ends bool) {
	ends = all(row, func(n api.Node) bool {
		depth, met := depths[placeOf(n.Kids)]
		if !met {
			rows = append(rows, n.Kids)
		}
		return !met || depth != unknown
	})
	return rows, ends
}

func deepest(row []api.Node, deep func(api.Node) int) int {
	most := 0
	for _, n := range row {
		most = max(most, deep(n))
	}
	return most
}

// Same says whether a and b are the same but for places.
func Same(a, b api.Node) bool {
	type pair struct{ a, b []api.Node }
	todo := []pair{{[]api.Node{a}, []api.Node{b}}}
	taken := asOne{}
	for len(todo) > 0 {
		next := todo[len(todo)-1]
		todo = todo[:len(todo)-1]
		if !taken.join(placeOf(next.a), placeOf(next.b)) {
			continue
		}
		if !alike(next.a, next.b) {
			return false
		}
		for i := range next.a {
			todo = append(todo, pair{next.a[i].Kids, next.b[i].Kids})
		}
	}
	return true
}

// alike says whether two rows are the same but for places and for their kids.
func alike(a, b []api.Node) bool {
	return slices.EqualFunc(a, b, func(x, y api.Node) bool {
		return x.Kind == y.Kind && x.Num == y.Num && x.Text == y.Text
	})
}

// asOne leads from a row to another one that it is taken to be the same as, till a difference is found.
type asOne map[place]place

// join takes a and b to be the same; false, if they were taken so already.
func (taken asOne) join(a, b place) bool {
	a, b = taken.last(a), taken.last(b)
	if a == b {
		return false
	}
	taken[a] = b
	return true
}

// last is what p leads to in the end; the way there is made shorter for whoever goes it again.
func (taken asOne) last(p place) place {
	for {
		next, ok := taken[p]
		if !ok {
			return p
		}
		if further, ok := taken[next]; ok {
			taken[p] = further
		}
		p = next
	}
}
