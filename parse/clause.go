package parse

import "pigeonhole/api"

// function reads a function of a module: its clauses all begin with the name that the first one begins with.
func (r *reader) function() api.Node {
	first := r.next()
	n := parent(api.NodeFunction, first.At, r.row(";", func() api.Node {
		at := r.here()
		if r.next().Text != first.Text {
			r.fail()
		}
		r.token(api.TokAtom)
		return r.headed(at)
	})...)
	r.token(api.TokDot)
	n.Text = first.Text
	n.Num = len(n.Kids[0].Kids[0].Kids)
	return n
}

func (r *reader) head() api.Node {
	return r.headed(r.here())
}

// headed reads a clause, which begins at that place, from the bracket of its patterns on.
func (r *reader) headed(at int) api.Node {
	r.wants("(")
	return r.guarded(at, r.items(")")...)
}

func (r *reader) clause() api.Node {
	at := r.here()
	return r.guarded(at, r.item())
}

func (r *reader) caught() api.Node {
	at := r.here()
	class := r.leaf(api.TokAtom, api.TokVar)
	r.wants(":")
	return r.guarded(at, parent(api.NodeTuple, at, class, r.item()))
}

// guarded reads the rest of a clause, from behind its patterns on.
func (r *reader) guarded(at int, patterns ...api.Node) api.Node {
	var guards []api.Node
	if r.takes("when") {
		guards = r.guards()
	}
	return r.told(at, patterns, guards)
}

// test reads a clause of an if.
func (r *reader) test() api.Node {
	at := r.here()
	return r.told(at, nil, r.guards())
}

// told reads the rest of a clause, from its arrow on.
func (r *reader) told(at int, patterns, guards []api.Node) api.Node {
	r.wants("->")
	return parent(api.NodeClause, at, parent(api.NodeBlock, at, patterns...), parent(api.NodeBlock, at, guards...), r.body())
}

// guards are told as bodies are.
func (r *reader) guards() []api.Node {
	return r.row(";", r.body)
}

func (r *reader) body() api.Node {
	at := r.here()
	return parent(api.NodeBlock, at, r.row(",", r.item)...)
}

func (r *reader) after() api.Node {
	at := r.here()
	r.wants("after")
	time := r.item()
	r.wants("->")
	return parent(api.NodeAfter, at, time, r.body())
}
