package lint

import "pigeonhole/api"

func (c *checker) body(n api.Node, s *scope) {
	for _, item := range n.Kids {
		c.item(item, s)
	}
}

// item checks an item of a body: such a one alone may be a match.
func (c *checker) item(n api.Node, s *scope) {
	if n.Kind != api.NodeMatch {
		c.expression(n, s)
		return
	}
	c.item(n.Kids[1], s)
	pattern(n.Kids[0], s)
}

func (c *checker) expressions(row []api.Node, s *scope) {
	for _, n := range row {
		c.expression(n, s)
	}
}

func (c *checker) expression(n api.Node, s *scope) {
	switch n.Kind {
	case api.NodeMatch:
		refuse(true, api.ErrPattern, n)
	case api.NodeVar:
		variable(n, s)
	case api.NodeCall:
		c.call(n, s)
	case api.NodeName:
		refuse(!c.has(n.Text, n.Num), api.ErrCall, n)
	case api.NodeFun:
		alike(n.Kids, len(n.Kids[0].Kids[0].Kids))
		c.heads(n.Kids, s)
	case api.NodeCase:
		c.expression(n.Kids[0], s)
		c.choices(n.Kids[1:], s)
	case api.NodeIf:
		c.choices(n.Kids, s)
	case api.NodeReceive:
		c.receive(n, s)
	case api.NodeTry:
		c.block(n.Kids[0], s)
		c.choices(n.Kids[1:], s)
	case api.NodeComp:
		s.apart(func(inner *scope) { c.comprehension(n, inner) })
	case api.NodeBlock:
		c.block(n, s)
	default:
		c.expressions(n.Kids, s)
	}
}

func (c *checker) call(n api.Node, s *scope) {
	called, arguments := n.Kids[0], n.Kids[1:]
	refuse(len(arguments) > api.MaxArity, api.ErrMany, n)
	if called.Kind == api.NodeAtom {
		refuse(!c.callable(called.Text, len(arguments)), api.ErrCall, n)
	}
	c.expressions(n.Kids, s)
}

// block checks the body of a try or a begin.
func (c *checker) block(n api.Node, s *scope) {
	s.branch(func(inner *scope) { c.body(n, inner) })
}

// receive checks clauses, and what stands after them: that is no clause, and no body behind which a name is unsafe.
func (c *checker) receive(n api.Node, s *scope) {
	last := len(n.Kids) - n.Num
	c.choices(n.Kids[:last], s)
	for _, after := range n.Kids[last:] {
		c.expression(after.Kids[0], s)
		s.aside(func(inner *scope) { c.body(after.Kids[1], inner) })
	}
}

func (c *checker) comprehension(n api.Node, s *scope) {
	for _, step := range n.Kids[1:] {
		if step.Kind != api.NodeGen {
			c.expression(step, s)
			continue
		}
		c.expression(step.Kids[1], s)
		pattern(step.Kids[0], s)
	}
	c.expression(n.Kids[0], s)
}
