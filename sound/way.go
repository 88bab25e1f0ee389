package sound

import (
	"maps"
	"slices"

	"pigeonhole/api"
)

// bound is the variables that are bound where something is come to.
type bound map[int]struct{}

func (b bound) has(num int) bool {
	_, ok := b[num]
	return ok
}

func (b bound) add(nums ...int) {
	for _, num := range nums {
		b[num] = struct{}{}
	}
}

// with is a copy that has num, too.
func (b bound) with(num int) bound {
	own := maps.Clone(b)
	own.add(num)
	return own
}

func (b bound) rising() []int {
	return slices.Sorted(maps.Keys(b))
}

// walker goes through nodes, each with what is bound on its way.
// What is still to be done stands in a row, the next one last: nodes may be deeper than the stack has room for.
type walker struct {
	look func(c *api.Core, b bound) bool
	todo []func() bool
}

// goThrough looks at c and all that is in it, as long as look holds; b is what is bound ahead of c, which ends.
func goThrough(c *api.Core, b bound, look func(c *api.Core, b bound) bool) bool {
	w := &walker{look: look}
	holds := w.handOn(c, b)
	for holds && len(w.todo) > 0 {
		next := w.todo[len(w.todo)-1]
		w.todo = w.todo[:len(w.todo)-1]
		holds = next()
	}
	return holds
}

// each has something done with all nodes of a row, from left to right, ahead of what was to be done.
func (w *walker) each(row []api.Core, do func(c *api.Core) bool) {
	for i := range slices.Backward(row) {
		w.todo = append(w.todo, func() bool { return do(&row[i]) })
	}
}

// visit looks at c, and has its Kids visited. Of a row of patterns b is its own: what it binds is put there, as it is come to.
func (w *walker) visit(c *api.Core, b bound) bool {
	first := c.Kids[:min(1, len(c.Kids))]
	behind := c.Kids[len(first):]
	switch c.Kind {
	case api.PatTuple, api.PatCons, api.PatBoth:
		w.each(c.Kids, func(kid *api.Core) bool { return w.keep(kid, b) })
	case api.PatBind:
		w.each(c.Kids, func(kid *api.Core) bool { return w.handOn(kid, b.with(c.Num)) })
	case api.CoreLet:
		w.each(behind, func(kid *api.Core) bool { return w.handOn(kid, b.with(c.Num)) })
		w.each(first, func(kid *api.Core) bool { return w.handOn(kid, b) })
	case api.CoreClause:
		own := maps.Clone(b)
		w.each(behind, func(kid *api.Core) bool { return w.handOn(kid, own) })
		w.each(first, func(kid *api.Core) bool { return w.keep(kid, own) })
	default:
		w.each(c.Kids, func(kid *api.Core) bool { return w.handOn(kid, b) })
	}
	return w.look(c, b)
}

func isRow(kind api.CoreKind) bool {
	return kind == api.PatTuple || kind == api.PatCons || kind == api.PatBoth
}

// handOn visits a node behind which nothing more is bound than ahead of it.
func (w *walker) handOn(c *api.Core, b bound) bool {
	if isRow(c.Kind) {
		b = maps.Clone(b)
	}
	return w.visit(c, b)
}

// keep visits a node behind which what its PatBinds bind is bound, too.
func (w *walker) keep(c *api.Core, b bound) bool {
	if isRow(c.Kind) {
		return w.visit(c, b)
	}
	ahead := b
	if len(c.Kids) > 0 { // these are visited later on
		ahead = maps.Clone(b)
	}
	holds := w.visit(c, ahead)
	b.add(Bound(*c)...)
	return holds
}
