package core

import (
	"maps"

	"pigeonhole/api"
)

// signature is what functions are told apart by.
type signature struct {
	name  string
	arity int
}

// maker is what all functions of a program have in common.
type maker struct {
	places map[signature]int // of the module's functions
	funcs  []api.Func
	many   bool // a limit is passed
}

// refuse takes down that a limit is passed.
func (m *maker) refuse(passed bool) {
	m.many = m.many || passed
}

// helper makes a function that the source does not name, and says its place.
// It has that place ahead of being made: helpers that are come to in it stand behind it.
func (m *maker) helper(extra, arity int, body func(*function) api.Core) int {
	place := len(m.funcs)
	m.refuse(place >= api.MaxCode)
	m.funcs = append(m.funcs, api.Func{})
	m.fill(place, api.Func{Arity: arity, Extra: extra}, body)
	return place
}

// fill makes what a function has beside its name and its parameters.
func (m *maker) fill(place int, made api.Func, body func(*function) api.Core) {
	m.refuse(made.Arity > api.MaxArity)
	f := &function{maker: m, place: place, extra: made.Extra, arity: made.Arity, vars: made.Arity}
	made.Body = body(f)
	made.Vars = f.vars
	m.funcs[place] = made
}

// function is one that is made.
type function struct {
	*maker
	place, extra, arity int
	vars                int // how many there are so far
}

// fresh is the next variable.
func (f *function) fresh() int {
	f.vars++
	f.refuse(f.vars > api.MaxVars)
	return f.vars - 1
}

// heads is the body of a function or of a fun: a case of its parameters, what it has captured left out.
func (f *function) heads(clauses []api.Node, names scope) api.Core {
	subject := alone(api.CoreTuple, variables(f.extra, f.arity))
	kids := every(clauses, func(n api.Node) api.Core {
		patterns, inner := f.head(n.Kids[0].Kids, names)
		return f.clause(alone(api.PatTuple, patterns), n, inner)
	})
	return choose(subject, append(kids, whenever(of(api.PatAny), fail("function_clause")))...)
}

// head is patterns within which the names around them do not count, and what is in scope behind them.
func (f *function) head(patterns []api.Node, around scope) ([]api.Core, scope) {
	own := scope{}
	kids := f.patterns(patterns, own)
	inner := maps.Clone(around)
	maps.Copy(inner, own)
	return kids, inner
}

// choices is clauses of one pattern, within which the names around it count.
func (f *function) choices(clauses []api.Node, names scope) []api.Core {
	return every(clauses, func(n api.Node) api.Core {
		inner := maps.Clone(names)
		return f.clause(f.pattern(n.Kids[0].Kids[0], inner), n, inner)
	})
}

// clause is one whose pattern is made already. The names are its own.
func (f *function) clause(pattern api.Core, n api.Node, names scope) api.Core {
	return of(api.CoreClause, pattern, f.guards(n.Kids[1].Kids, names), f.body(n.Kids[2].Kids, names))
}
