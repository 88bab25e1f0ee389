package core

import "pigeonhole/api"

// of is a node that has kids alone.
func of(kind api.CoreKind, kids ...api.Core) api.Core {
	return api.Core{Kind: kind, Kids: kids}
}

// counted is a node with a number: of a variable, of a function.
func counted(kind api.CoreKind, num int, kids ...api.Core) api.Core {
	return api.Core{Kind: kind, Num: num, Kids: kids}
}

func variable(num int) api.Core { return counted(api.CoreVar, num) }

func bind(num int) api.Core { return counted(api.PatBind, num) }

// variables is those from first to below end.
func variables(first, end int) []api.Core {
	var out []api.Core
	for num := first; num < end; num++ {
		out = append(out, variable(num))
	}
	return out
}

func bif(name string, kids ...api.Core) api.Core {
	return api.Core{Kind: api.CoreBif, Text: name, Kids: kids}
}

func fail(text string, kids ...api.Core) api.Core {
	return api.Core{Kind: api.CoreFail, Text: text, Kids: kids}
}

// choose is a case.
func choose(subject api.Core, clauses ...api.Core) api.Core {
	return of(api.CoreCase, append([]api.Core{subject}, clauses...)...)
}

// whenever is a clause whose guard asks for nothing.
func whenever(pattern, body api.Core) api.Core {
	return of(api.CoreClause, pattern, of(api.GuardAny), body)
}

// constant is a node, of an expression or a pattern, of a term.
func constant(kind api.CoreKind, t api.Term) api.Core {
	return api.Core{Kind: kind, Term: t}
}

func atom(text string) api.Term { return api.Term{Kind: api.Atom, Text: text} }

func nothing() api.Term { return api.Term{Kind: api.List} }

// alone is the one kid, or a tuple of all.
func alone(tuple api.CoreKind, kids []api.Core) api.Core {
	if len(kids) == 1 {
		return kids[0]
	}
	return of(tuple, kids...)
}

// chain is a list: of each kid and the rest, last being that of the last one.
func chain(cons api.CoreKind, kids []api.Core, last api.Core) api.Core {
	for i := len(kids) - 1; i >= 0; i-- {
		last = of(cons, kids[i], last)
	}
	return last
}

// every is what is made of each node, from left to right.
func every(row []api.Node, made func(api.Node) api.Core) []api.Core {
	var out []api.Core
	for _, n := range row {
		out = append(out, made(n))
	}
	return out
}
