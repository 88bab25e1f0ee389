package core

import (
	"maps"

	"pigeonhole/api"
)

// guards makes a clause's guards, each a Block.
func (f *function) guards(rows []api.Node, names scope) api.Core {
	return of(api.GuardAny, every(rows, func(row api.Node) api.Core {
		return of(api.GuardAll, every(row.Kids, func(n api.Node) api.Core { return f.guard(n, names) })...)
	})...)
}

// guard makes an expression of a guard.
func (f *function) guard(n api.Node, names scope) api.Core {
	made := func(kid api.Node) api.Core { return f.guard(kid, names) }
	switch {
	case isOp(n, "andalso"):
		return of(api.GuardAll, every(n.Kids, made)...)
	case isOp(n, "orelse"):
		return of(api.GuardAny, every(n.Kids, made)...)
	default:
		return f.plain(n, names, made)
	}
}

func isOp(n api.Node, text string) bool {
	return n.Kind == api.NodeOp && n.Text == text
}

// expression makes one; the names stay as they are.
func (f *function) expression(n api.Node, names scope) api.Core {
	if f.many {
		return api.Core{} // there will be no program
	}
	made := func(kid api.Node) api.Core { return f.expression(kid, names) }
	switch n.Kind {
	case api.NodeName:
		return counted(api.CoreFun, f.places[signature{n.Text, n.Num}])
	case api.NodeFun:
		return f.fun(n, names)
	case api.NodeCase:
		return f.caseOf(n, names)
	case api.NodeIf:
		return f.ifs(n, names)
	case api.NodeReceive:
		return f.receive(n, names)
	case api.NodeTry:
		tried := f.block(n.Kids[0], names)
		return of(api.CoreTry, append([]api.Core{tried}, f.choices(n.Kids[1:], names)...)...)
	case api.NodeComp:
		return f.comprehension(n, names)
	case api.NodeBlock:
		return f.block(n, names)
	case api.NodeOp:
		return f.operation(n, names, made)
	default:
		return f.plain(n, names, made)
	}
}

// plain makes what guards and other expressions make alike, but for its kids.
func (f *function) plain(n api.Node, names scope, made func(api.Node) api.Core) api.Core {
	switch n.Kind {
	case api.NodeVar:
		return variable(names[n.Text])
	case api.NodeTuple:
		return of(api.CoreTuple, every(n.Kids, made)...)
	case api.NodeList:
		return list(n, api.CoreCons, api.CoreConst, every(n.Kids, made))
	case api.NodeOp:
		return bif(n.Text, every(n.Kids, made)...)
	case api.NodeCall:
		return f.call(n, made)
	default:
		return constant(api.CoreConst, f.term(n))
	}
}

// operation makes an operator's, outside of guards.
func (f *function) operation(n api.Node, names scope, made func(api.Node) api.Core) api.Core {
	answer := func(text string) api.Core { return constant(api.CoreConst, atom(text)) }
	badarg := func(api.Core) api.Core { return fail("badarg") }
	switch {
	case isOp(n, "andalso"):
		first := made(n.Kids[0])
		return f.decide(first, made(n.Kids[1]), answer("false"), badarg)
	case isOp(n, "orelse"):
		first := made(n.Kids[0])
		return f.decide(first, answer("true"), made(n.Kids[1]), badarg)
	default:
		return f.plain(n, names, made)
	}
}

// decide is a case of what is to be true or false; other is handed what is neither.
func (f *function) decide(subject, yes, no api.Core, other func(api.Core) api.Core) api.Core {
	is := func(text string) api.Core { return constant(api.PatConst, atom(text)) }
	return choose(subject, whenever(is("true"), yes), whenever(is("false"), no), f.otherwise(other))
}

// otherwise is a clause that takes all, in a fresh variable.
func (f *function) otherwise(body func(taken api.Core) api.Core) api.Core {
	x := f.fresh()
	return whenever(bind(x), body(variable(x)))
}

func (f *function) call(n api.Node, made func(api.Node) api.Core) api.Core {
	called := n.Kids[0]
	if called.Kind != api.NodeAtom {
		return of(api.CoreApply, every(n.Kids, made)...)
	}
	arguments := every(n.Kids[1:], made)
	if place, ok := f.places[signature{called.Text, len(arguments)}]; ok {
		return counted(api.CoreCall, place, arguments...)
	}
	return bif(called.Text, arguments...)
}

func (f *function) fun(n api.Node, names scope) api.Core {
	caught := names.captured(n.Kids)
	own := len(n.Kids[0].Kids[0].Kids)
	place := f.helper(len(caught), len(caught)+own, func(h *function) api.Core {
		return h.heads(n.Kids, numbered(caught))
	})
	return counted(api.CoreFun, place, names.of(caught)...)
}

func (f *function) caseOf(n api.Node, names scope) api.Core {
	subject := f.expression(n.Kids[0], names)
	clauses := f.choices(n.Kids[1:], names)
	none := f.otherwise(func(x api.Core) api.Core { return fail("case_clause", x) })
	return choose(subject, append(clauses, none)...)
}

func (f *function) ifs(n api.Node, names scope) api.Core {
	clauses := every(n.Kids, func(n api.Node) api.Core {
		return f.clause(of(api.PatAny), n, maps.Clone(names))
	})
	none := whenever(of(api.PatAny), fail("if_clause"))
	return choose(constant(api.CoreConst, atom("true")), append(clauses, none)...)
}

func (f *function) receive(n api.Node, names scope) api.Core {
	last := len(n.Kids) - n.Num
	kids := f.choices(n.Kids[:last], names)
	for _, after := range n.Kids[last:] {
		kids = append(kids, f.expression(after.Kids[0], names))
		kids = append(kids, f.block(after.Kids[1], names))
	}
	return counted(api.CoreReceive, n.Num, kids...)
}
