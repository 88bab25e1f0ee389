package lint

import "pigeonhole/api"

// signature is what functions are told apart by.
type signature struct {
	name  string
	arity int
}

// checker goes through a module as the chapter says; the first fault that it comes to is a panic.
type checker struct {
	functions map[signature]struct{}
}

// refuse ends the check with the fault of a node, if there is one.
func refuse(wrong bool, err api.Errno, n api.Node) {
	if wrong {
		panic(api.Fault{Err: err, At: n.At})
	}
}

func (c *checker) has(name string, arity int) bool {
	_, ok := c.functions[signature{name, arity}]
	return ok
}

// callable says whether a call by that name leads anywhere.
func (c *checker) callable(name string, arity int) bool {
	return c.has(name, arity) || Kind(name, arity) != None
}

// declare takes down a function of the module, with what can be said of it without a look inside.
func (c *checker) declare(f api.Node) {
	refuse(c.callable(f.Text, f.Num), api.ErrTwice, f)
	c.functions[signature{f.Text, f.Num}] = struct{}{}
	alike(f.Kids, f.Num)
}

// alike asks that all these clauses have so many patterns.
func alike(clauses []api.Node, arity int) {
	for _, n := range clauses {
		patterns := len(n.Kids[0].Kids)
		refuse(patterns > api.MaxArity, api.ErrMany, n)
		refuse(patterns != arity, api.ErrArity, n)
	}
}

// heads checks the clauses of a function or a fun.
// Their patterns bind names anew that are in scope around them: the same names are in scope behind that, so nothing is done for it.
func (c *checker) heads(clauses []api.Node, s *scope) {
	for _, n := range clauses {
		s.apart(func(inner *scope) { c.clause(n, inner) })
	}
}

// choices checks the clauses of a case, an if, a receive or a try.
func (c *checker) choices(clauses []api.Node, s *scope) {
	for _, n := range clauses {
		s.branch(func(inner *scope) { c.clause(n, inner) })
	}
}

func (c *checker) clause(n api.Node, s *scope) {
	for _, p := range n.Kids[0].Kids {
		pattern(p, s)
	}
	for _, row := range n.Kids[1].Kids {
		for _, g := range row.Kids {
			guard(g, s)
		}
	}
	c.body(n.Kids[2], s)
}

func pattern(n api.Node, s *scope) {
	switch n.Kind {
	case api.NodeInt, api.NodeAtom, api.NodeText:
	case api.NodeVar:
		if n.Text != "_" {
			s.bind(n.Text)
		}
	case api.NodeTuple, api.NodeList, api.NodeMatch:
		for _, kid := range n.Kids {
			pattern(kid, s)
		}
	default:
		refuse(!isNegative(n), api.ErrPattern, n)
	}
}

func isNegative(n api.Node) bool {
	return n.Kind == api.NodeOp && n.Text == "-" && len(n.Kids) == 1 && n.Kids[0].Kind == api.NodeInt
}

func guard(n api.Node, s *scope) {
	kids := n.Kids
	switch n.Kind {
	case api.NodeInt, api.NodeAtom, api.NodeText, api.NodeTuple, api.NodeList:
	case api.NodeVar:
		variable(n, s)
	case api.NodeOp:
		lazy := n.Text == "andalso" || n.Text == "orelse"
		refuse(!lazy && Kind(n.Text, len(kids)) != Guards, api.ErrGuard, n)
	case api.NodeCall:
		called := kids[0]
		kids = kids[1:]
		refuse(called.Kind != api.NodeAtom || Kind(called.Text, len(kids)) != Guards, api.ErrGuard, n)
	default:
		refuse(true, api.ErrGuard, n)
	}
	for _, kid := range kids {
		guard(kid, s)
	}
}

func variable(n api.Node, s *scope) {
	known := s.of(n.Text)
	if known&inScope != 0 {
		return
	}
	refuse(known&gone != 0, api.ErrUnsafe, n)
	refuse(true, api.ErrFree, n)
}
