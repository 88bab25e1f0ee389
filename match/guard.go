package match

import (
	"pigeonhole/api"
	"pigeonhole/bif"
	"pigeonhole/lint"
	"pigeonhole/term"
)

// asking finds the values of guards' expressions: of one that fails a zero term.
// They may have Kids in common, small in memory and without number as a tree: so each one is asked once.
type asking struct {
	vars  Vars
	known map[*api.Core]api.Term
}

// question is an expression that is asked for its value.
type question struct {
	about  *api.Core
	left   []api.Core // Kids that are to be asked still, unless it fails
	values []api.Term // of those that were asked; of a GuardAll, a GuardAny the last one alone
	fails  bool
}

// value is that of an expression.
// Questions that wait for others stand in a row, not on the stack: expressions may be deeper than that has room for.
func (a *asking) value(c *api.Core) api.Term {
	row := []question{a.begin(c)}
	for len(row) > 0 {
		q := &row[len(row)-1]
		if q.fails || len(q.left) == 0 {
			a.known[q.about] = a.settled(q)
			row = row[:len(row)-1]
			continue
		}
		kid := &q.left[0]
		if value, ok := a.known[kid]; ok {
			q.take(value)
		} else {
			row = append(row, a.begin(kid))
		}
	}
	return a.known[c]
}

// begin asks c. Until that is settled, c counts as one that fails: what leads back into itself has no value.
func (a *asking) begin(c *api.Core) question {
	a.known[c] = api.Term{}
	kids, ok := toBeAsked(c)
	return question{about: c, left: kids, fails: !ok}
}

// toBeAsked is the Kids on whose values that of an expression hangs; false, if it has none of that Kind, with so many.
func toBeAsked(c *api.Core) ([]api.Core, bool) {
	switch c.Kind {
	case api.CoreConst, api.CoreVar:
		return nil, true
	case api.CoreTuple, api.GuardAll, api.GuardAny:
		return c.Kids, true
	case api.CoreCons:
		return c.Kids, len(c.Kids) == 2
	case api.CoreBif:
		return c.Kids, lint.Kind(c.Text, len(c.Kids)) == lint.Guards
	default:
		return nil, false
	}
}

// take goes on with the next Kid's value.
func (q *question) take(value api.Term) {
	q.left = q.left[1:]
	q.fails = value.Kind == 0
	switch q.about.Kind {
	case api.GuardAll:
		q.choose(value, "false", "true")
	case api.GuardAny:
		q.choose(value, "true", "false")
	default:
		q.values = append(q.values, value)
	}
}

// choose takes a Kid's value. Ahead of the last one it must be one of two atoms; behind the one that ends no more are asked.
func (q *question) choose(value api.Term, ends, goesOn string) {
	q.values = append(q.values[:0], value)
	switch {
	case len(q.left) == 0:
	case isAtom(value, ends):
		q.left = nil
	case !isAtom(value, goesOn):
		q.fails = true
	}
}

// settled is what comes of a question none of whose Kids is to be asked any more.
func (a *asking) settled(q *question) api.Term {
	c := q.about
	if q.fails {
		return api.Term{}
	}
	switch c.Kind {
	case api.CoreConst:
		return ifRight(c.Term)
	case api.CoreVar:
		value, _ := a.vars.value(c.Num)
		return value
	case api.CoreTuple:
		return ifRight(api.Term{Kind: api.Tuple, Items: q.values})
	case api.CoreCons:
		return term.Cons(q.values[0], q.values[1])
	case api.CoreBif:
		value, _, _ := bif.Call(c.Text, q.values)
		return value
	default: // a GuardAll, a GuardAny
		if len(c.Kids) == 0 {
			return truth(c.Kind == api.GuardAll)
		}
		return q.values[0]
	}
}

// ifRight is t, or a zero term, if t is not right.
func ifRight(t api.Term) api.Term {
	if !term.Right(t) {
		return api.Term{}
	}
	return t
}

func atom(text string) api.Term { return api.Term{Kind: api.Atom, Text: text} }

func isAtom(t api.Term, text string) bool { return term.Same(t, atom(text)) }

func truth(holds bool) api.Term {
	if holds {
		return atom("true")
	}
	return atom("false")
}
