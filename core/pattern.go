package core

import (
	"strings"

	"pigeonhole/api"
	"pigeonhole/term"
	"pigeonhole/whole"
)

func (f *function) patterns(row []api.Node, names scope) []api.Core {
	return every(row, func(n api.Node) api.Core { return f.pattern(n, names) })
}

// pattern makes one, which brings what it binds into scope.
func (f *function) pattern(n api.Node, names scope) api.Core {
	switch n.Kind {
	case api.NodeVar:
		return f.name(n.Text, names)
	case api.NodeTuple:
		return of(api.PatTuple, f.patterns(n.Kids, names)...)
	case api.NodeList:
		return list(n, api.PatCons, api.PatConst, f.patterns(n.Kids, names))
	case api.NodeMatch:
		return of(api.PatBoth, f.patterns(n.Kids, names)...)
	case api.NodeOp: // none but - of an integer may stand here
		below, _ := whole.Sub(whole.Of(0), f.term(n.Kids[0]))
		return constant(api.PatConst, below)
	default:
		return constant(api.PatConst, f.term(n))
	}
}

func (f *function) name(text string, names scope) api.Core {
	if text == "_" {
		return of(api.PatAny)
	}
	if known, ok := names[text]; ok {
		return counted(api.PatSame, known)
	}
	names[text] = f.fresh()
	return bind(names[text])
}

// list is a NodeList, whose kids are made already.
func list(n api.Node, cons, last api.CoreKind, kids []api.Core) api.Core {
	if n.Num == 1 {
		tail := len(kids) - 1
		return chain(cons, kids[:tail], kids[tail])
	}
	return chain(cons, kids, constant(last, nothing()))
}

// term is that of a NodeInt, a NodeText or a NodeAtom.
func (m *maker) term(n api.Node) api.Term {
	switch n.Kind {
	case api.NodeInt:
		return m.integer(n.Text)
	case api.NodeText:
		t := term.Of(n.Text)
		m.refuse(!term.Right(t))
		return t
	default:
		return atom(n.Text)
	}
}

// integer takes noughts ahead of the digits, which an integer's own text has not.
func (m *maker) integer(digits string) api.Term {
	digits = strings.TrimLeft(digits, "0")
	if digits == "" {
		return whole.Of(0)
	}
	t, ok := whole.Parse(digits)
	m.refuse(!ok)
	return t
}
