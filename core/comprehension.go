package core

import "pigeonhole/api"

// comprehension gathers its items the last one first, and turns them round.
func (f *function) comprehension(n api.Node, names scope) api.Core {
	none := constant(api.CoreConst, nothing())
	return bif("reverse", f.gather(n.Kids[:1], n.Kids[1:], none, names))
}

// gather makes the qualifiers that are left, and what is put ahead of the items so far: first is a row of the one node that says it.
func (f *function) gather(first, left []api.Node, sofar api.Core, names scope) api.Core {
	if len(left) == 0 {
		return of(api.CoreCons, f.expression(first[0], names), sofar)
	}
	if left[0].Kind == api.NodeGen {
		return f.generator(first, left, sofar, names)
	}
	test := f.expression(left[0], names)
	kept := f.gather(first, left[1:], sofar, names)
	return f.decide(test, kept, sofar, func(x api.Core) api.Core { return fail("bad_filter", x) })
}

// generator makes the first one of those that are left: a call of a helper, which goes through a list.
func (f *function) generator(first, left []api.Node, sofar api.Core, names scope) api.Core {
	pattern, source, rest := left[0].Kids[:1], left[0].Kids[1], left[1:]
	caught := names.captured(pattern, rest, first)
	place := f.helper(0, len(caught)+2, func(h *function) api.Core {
		return h.loop(pattern, caught, func(sofar api.Core, names scope) api.Core {
			return h.gather(first, rest, sofar, names)
		})
	})
	e := f.expression(source, names)
	return counted(api.CoreCall, place, append(names.of(caught), e, sofar)...)
}

// loop is the body of a generator's helper, whose parameters are what is captured, a list, and the items so far; inside makes what is done with an item that the pattern takes.
func (f *function) loop(pattern []api.Node, caught []string, inside func(api.Core, scope) api.Core) api.Core {
	items, sofar := variable(len(caught)), variable(len(caught)+1)
	again := func(rest int, sofar api.Core) api.Core {
		return counted(api.CoreCall, f.place, append(variables(0, len(caught)), variable(rest), sofar)...)
	}
	head, names := f.head(pattern, numbered(caught))
	rest := f.fresh()
	taken := whenever(of(api.PatCons, head[0], bind(rest)), again(rest, inside(sofar, names)))
	rest = f.fresh()
	passed := whenever(of(api.PatCons, of(api.PatAny), bind(rest)), again(rest, sofar))
	over := whenever(constant(api.PatConst, nothing()), sofar)
	none := f.otherwise(func(x api.Core) api.Core { return fail("bad_generator", x) })
	return choose(items, taken, passed, over, none)
}
