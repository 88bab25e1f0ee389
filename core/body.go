package core

import (
	"maps"

	"pigeonhole/api"
)

// block makes a body of which nothing is in scope behind it.
func (f *function) block(n api.Node, names scope) api.Core {
	return f.body(n.Kids, maps.Clone(names))
}

// body makes items, one or more. The names are its own: what it binds comes into scope.
func (f *function) body(items []api.Node, names scope) api.Core {
	first, rest := items[0], items[1:]
	if first.Kind == api.NodeMatch {
		return f.match(first, rest, names)
	}
	e := f.expression(first, names)
	if len(rest) == 0 {
		return e
	}
	x := f.fresh()
	return counted(api.CoreLet, x, e, f.body(rest, names))
}

// match makes one, and the items behind it.
func (f *function) match(n api.Node, rest []api.Node, names scope) api.Core {
	e := f.expression(rightmost(n), names)
	var taken api.Core
	if len(rest) == 0 {
		x := f.fresh()
		taken = whenever(of(api.PatBoth, bind(x), f.left(n, names)), variable(x))
	} else {
		p := f.left(n, names)
		taken = whenever(p, f.body(rest, names))
	}
	none := f.otherwise(func(y api.Core) api.Core { return fail("badmatch", y) })
	return choose(e, taken, none)
}

// rightmost is what stands behind all matches of a row.
func rightmost(n api.Node) api.Node {
	for n.Kind == api.NodeMatch {
		n = n.Kids[1]
	}
	return n
}

// left makes the patterns of a row of matches, from the last one on: in this order they bind.
func (f *function) left(n api.Node, names scope) api.Core {
	own, behind := n.Kids[0], n.Kids[1]
	if behind.Kind != api.NodeMatch {
		return f.pattern(own, names)
	}
	p := f.left(behind, names)
	return of(api.PatBoth, p, f.pattern(own, names))
}
