package link

import (
	"maps"
	"slices"
)

// groups are members, by the owner that has them. No group is empty: what is gone leaves nothing behind.
type groups map[int]map[int]struct{}

// has tells whether member is one of owner's.
func (g groups) has(owner, member int) bool {
	_, ok := g[owner][member]
	return ok
}

// put has member be one of owner's.
func (g groups) put(owner, member int) {
	if g[owner] == nil {
		g[owner] = map[int]struct{}{}
	}
	g[owner][member] = struct{}{}
}

// take has member be one of owner's no more.
func (g groups) take(owner, member int) {
	delete(g[owner], member)
	if len(g[owner]) == 0 {
		delete(g, owner)
	}
}

// rising is owner's members.
func (g groups) rising(owner int) []int {
	return slices.Sorted(maps.Keys(g[owner]))
}
