package sound_test

import (
	"slices"
	"strings"

	"pigeonhole/api"
	"pigeonhole/sound"
)

func of(kind api.CoreKind, kids ...api.Core) api.Core { return api.Core{Kind: kind, Kids: kids} }

func numbered(kind api.CoreKind, num int, kids ...api.Core) api.Core {
	return api.Core{Kind: kind, Num: num, Kids: kids}
}

func said(kind api.CoreKind, text string, kids ...api.Core) api.Core {
	return api.Core{Kind: kind, Text: text, Kids: kids}
}

func holding(kind api.CoreKind, t api.Term) api.Core { return api.Core{Kind: kind, Term: t} }

func atom(text string) api.Term { return api.Term{Kind: api.Atom, Text: text} }

func integer(limbs ...uint32) api.Term { return api.Term{Kind: api.Int, Limbs: limbs} }

func x(num int) api.Core { return numbered(api.CoreVar, num) }

func bind(num int) api.Core { return numbered(api.PatBind, num) }

func same(num int) api.Core { return numbered(api.PatSame, num) }

func let(num int, e, b api.Core) api.Core { return numbered(api.CoreLet, num, e, b) }

func tuple(kids ...api.Core) api.Core { return of(api.CoreTuple, kids...) }

func bif(name string, kids ...api.Core) api.Core { return said(api.CoreBif, name, kids...) }

func call(num int, kids ...api.Core) api.Core { return numbered(api.CoreCall, num, kids...) }

func fun(num int, kids ...api.Core) api.Core { return numbered(api.CoreFun, num, kids...) }

func choose(e api.Core, clauses ...api.Core) api.Core {
	return of(api.CoreCase, append([]api.Core{e}, clauses...)...)
}

func pats(kids ...api.Core) api.Core { return of(api.PatTuple, kids...) }

func cons(h, t api.Core) api.Core { return of(api.PatCons, h, t) }

func both(p, q api.Core) api.Core { return of(api.PatBoth, p, q) }

func all(kids ...api.Core) api.Core { return of(api.GuardAll, kids...) }

func some(kids ...api.Core) api.Core { return of(api.GuardAny, kids...) }

// clause is one whose guard asks for nothing.
func clause(p, b api.Core) api.Core { return of(api.CoreClause, p, some(), b) }

// guarded is one whose guard is of these expressions.
func guarded(p, b api.Core, tests ...api.Core) api.Core {
	return of(api.CoreClause, p, some(all(tests...)), b)
}

var (
	a         = holding(api.CoreConst, atom("a"))
	wildcard  = of(api.PatAny)
	otherwise = clause(wildcard, a)
)

// about is the program whose first function, of two parameters and six variables, has this Body.
// The others are of 2 (1 captured), of 0, of 3 (all captured), of 12 parameters.
func about(body api.Core) api.Program {
	return api.Program{Funcs: []api.Func{
		{Name: "f", Arity: 2, Vars: 6, Body: body},
		{Arity: 2, Extra: 1, Vars: 2, Body: a},
		{Name: "g", Body: a},
		{Arity: 3, Extra: 3, Vars: 3, Body: a},
		{Name: "h", Arity: 12, Vars: 12, Body: a},
	}}
}

func checkBody(body api.Core) api.Errno { return sound.Check(about(body)) }

// repeated is so many of one node.
func repeated(c api.Core, times int) []api.Core { return slices.Repeat([]api.Core{c}, times) }

// copied is c in new memory.
func copied(c api.Core) api.Core {
	kids := c.Kids
	c.Kids = nil
	for _, kid := range kids {
		c.Kids = append(c.Kids, copied(kid))
	}
	c.Term = copiedTerm(c.Term)
	c.Text = strings.Clone(c.Text)
	return c
}

func copiedTerm(t api.Term) api.Term {
	row := func(terms []api.Term) []api.Term {
		var out []api.Term
		for _, t := range terms {
			out = append(out, copiedTerm(t))
		}
		return out
	}
	t.Limbs, t.Items, t.Tail = slices.Clone(t.Limbs), row(t.Items), row(t.Tail)
	return t
}

// visit goes through c and all that is in it, each ahead of its Kids.
func visit(c *api.Core, do func(c *api.Core)) {
	do(c)
	for i := range c.Kids {
		visit(&c.Kids[i], do)
	}
}
