package node

import "pigeonhole/api"

// role: what a node is to the one that it is a kid of.
type role uint8

const (
	item role = iota
	module
	function
	body       // one item or more
	patterns   // of a clause: items, none perhaps
	onePattern // patterns that are one
	noPattern  // patterns that are none
	guards     // of a clause: bodies, none perhaps
	someGuards // guards that are one or more
	clause     // of any patterns
	choice     // a clause of one pattern
	test       // a clause of no patterns, with guards
	caught     // a clause of a try
	errorRow   // the patterns of a caught
	errorPair  // the one pattern of an errorRow
	class      // the first item of an errorPair
	branch     // a choice of a receive, or what stands after it
	step       // of a comprehension: a NodeGen, or an item
)

// form says which kids a node of a kind has in a role: least of them at least, in the roles of kids.
// All behind these, if there are more, have the last one of them.
type form struct {
	as    role
	kind  api.NodeKind
	least uint8
	kids  []role
	more  bool
}

// forms has one form at most for a role and a kind.
var forms = [...]form{
	{item, api.NodeInt, 0, nil, false},
	{item, api.NodeAtom, 0, nil, false},
	{item, api.NodeVar, 0, nil, false},
	{item, api.NodeText, 0, nil, false},
	{item, api.NodeTuple, 0, []role{item}, true},
	{item, api.NodeList, 0, []role{item}, true},
	{item, api.NodeOp, 1, []role{item, item}, false},
	{item, api.NodeMatch, 2, []role{item, item}, false},
	{item, api.NodeCall, 1, []role{item}, true},
	{item, api.NodeFun, 1, []role{clause}, true},
	{item, api.NodeName, 0, nil, false},
	{item, api.NodeCase, 2, []role{item, choice}, true},
	{item, api.NodeIf, 1, []role{test}, true},
	{item, api.NodeReceive, 1, []role{branch}, true},
	{item, api.NodeTry, 2, []role{body, caught}, true},
	{item, api.NodeComp, 2, []role{item, step}, true},
	{item, api.NodeBlock, 1, []role{item}, true},
	{module, api.NodeModule, 0, []role{function}, true},
	{function, api.NodeFunction, 1, []role{clause}, true},
	{body, api.NodeBlock, 1, []role{item}, true},
	{patterns, api.NodeBlock, 0, []role{item}, true},
	{onePattern, api.NodeBlock, 1, []role{item}, false},
	{noPattern, api.NodeBlock, 0, nil, false},
	{guards, api.NodeBlock, 0, []role{body}, true},
	{someGuards, api.NodeBlock, 1, []role{body}, true},
	{clause, api.NodeClause, 3, []role{patterns, guards, body}, false},
	{choice, api.NodeClause, 3, []role{onePattern, guards, body}, false},
	{test, api.NodeClause, 3, []role{noPattern, someGuards, body}, false},
	{caught, api.NodeClause, 3, []role{errorRow, guards, body}, false},
	{errorRow, api.NodeBlock, 1, []role{errorPair}, false},
	{errorPair, api.NodeTuple, 2, []role{class, item}, false},
	{class, api.NodeAtom, 0, nil, false},
	{class, api.NodeVar, 0, nil, false},
	{branch, api.NodeClause, 3, []role{onePattern, guards, body}, false},
	{branch, api.NodeAfter, 2, []role{item, body}, false},
	{step, api.NodeGen, 2, []role{item, item}, false},
}

// is says whether n is what has the role; n fits.
// A function's Num hangs on its kids: fields are asked for behind them.
func is(n api.Node, as role) bool {
	f, ok := formOf(n.Kind, as)
	return ok && rightKids(n.Kids, f) && rightFields(n)
}

func formOf(kind api.NodeKind, as role) (form, bool) {
	if as == step && kind != api.NodeGen {
		as = item
	}
	for i := range forms {
		if forms[i].as == as && forms[i].kind == kind {
			return forms[i], true
		}
	}
	return form{}, false
}

func rightKids(kids []api.Node, f form) bool {
	if len(kids) < int(f.least) || len(kids) > len(f.kids) && !f.more {
		return false
	}
	left := f.kids
	return all(kids, func(kid api.Node) bool {
		as := left[0]
		if len(left) > 1 {
			left = left[1:]
		}
		return is(kid, as)
	})
}
