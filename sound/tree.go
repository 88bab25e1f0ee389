package sound

import "pigeonhole/api"

// Nodes may have Kids in common, small in memory and without number as a tree, or lead back into themselves.
// So each row of Kids is told by its place, and gone through once, ahead of all that goes from node to node.

// most is how many nodes, or bytes, the document speaks of (R7).
const most = 1<<31 - 1

// place is where a row of Kids stands.
type place struct {
	first *api.Core
	count int
}

func placeOf(row []api.Core) place {
	if len(row) == 0 {
		return place{}
	}
	return place{&row[0], len(row)}
}

// eachOnce tells c and all that is in it, what stands in several places once.
func eachOnce(c api.Core, tell func(c *api.Core)) {
	met := map[place]struct{}{}
	todo := [][]api.Core{{c}}
	for len(todo) > 0 {
		row := todo[len(todo)-1]
		todo = todo[:len(todo)-1]
		if _, again := met[placeOf(row)]; again {
			continue
		}
		met[placeOf(row)] = struct{}{}
		for i := range row {
			tell(&row[i])
			if len(row[i].Kids) > 0 {
				todo = append(todo, row[i].Kids)
			}
		}
	}
}

// ends says whether c does not lead back into itself, and is no greater than the document speaks of.
func ends(c api.Core) bool {
	_, ok := weigh(c, func(*api.Core) int { return 1 })
	return ok
}

// unknown is the weight of a row that is being gone through.
const unknown = -1

// weigh is what all nodes of c weigh together, each as often as it is come to; false, if that has no end, or is above most.
func weigh(c api.Core, own func(c *api.Core) int) (int, bool) {
	weights := map[place]int{placeOf(nil): 0}
	top := []api.Core{c}
	todo := [][]api.Core{top}
	for len(todo) > 0 {
		row := todo[len(todo)-1]
		weight, met := weights[placeOf(row)]
		if !met {
			weights[placeOf(row)] = unknown
			inside, ok := unmet(row, weights)
			if !ok {
				return 0, false
			}
			todo = append(todo, inside...)
			continue
		}
		todo = todo[:len(todo)-1]
		if weight != unknown {
			continue
		}
		weight = sum(row, func(c *api.Core) int { return own(c) + weights[placeOf(c.Kids)] })
		if weight > most {
			return 0, false
		}
		weights[placeOf(row)] = weight
	}
	return weights[placeOf(top)], true
}

// unmet is the rows right within this one that have no weight yet.
// One whose weight is unknown stands above this one: there is no end then.
func unmet(row []api.Core, weights map[place]int) (rows [][]api.Core, ends bool) {
	for _, c := range row {
		switch weight, met := weights[placeOf(c.Kids)]; {
		case !met:
			rows = append(rows, c.Kids)
		case weight == unknown:
			return nil, false
		}
	}
	return rows, true
}

func sum(row []api.Core, weight func(c *api.Core) int) int {
	out := 0
	for i := range row {
		out += weight(&row[i])
	}
	return out
}
