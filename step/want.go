package step

import (
	"slices"

	"pigeonhole/api"
	"pigeonhole/match"
	"pigeonhole/term"
)

// wanting is what wants the value of a node: it is told that, or the error that comes in its place.
type wanting interface {
	take(x *Proc, value api.Term)
	miss(x *Proc, raised api.Term)
}

// place is what all that want have: the node of which another one is a kid, and the variables there.
type place struct {
	node *api.Core
	vars match.Vars
}

func (x *Proc) place() place {
	return place{x.node, x.vars}
}

// miss hands an error on: most nodes come to the error that one of their kids comes to.
func (p *place) miss(x *Proc, raised api.Term) {
	x.raise(raised)
}

// back has the process at the node again.
func (p *place) back(x *Proc) {
	x.node, x.vars = p.node, p.vars
}

// wait has a kid reckoned, whose value w wants.
func (x *Proc) wait(w wanting, kid *api.Core) {
	x.stack = append(x.stack, w)
	x.begin(kid)
}

// pop is what was told, and what wants it: nil, if nothing does. The process has neither of them any more, nor the values that it was made of.
func (x *Proc) pop() (told api.Term, w wanting) {
	told, x.told, x.values = x.told, api.Term{}, nil
	if last := len(x.stack) - 1; last >= 0 {
		w, x.stack[last] = x.stack[last], nil
		x.stack = x.stack[:last]
	}
	return told, w
}

// row wants the values of all kids of a node, one by one.
type row struct {
	place
	values []api.Term
}

func (w *row) take(x *Proc, value api.Term) {
	w.values = append(w.values, value)
	w.goOn(x)
}

// goOn has the next kid reckoned. Behind the last one the variables are not wanted: so they are not kept while it is reckoned, which may be long.
func (w *row) goOn(x *Proc) {
	w.back(x)
	left := w.node.Kids[len(w.values):]
	switch len(left) {
	case 0:
		x.combine(w.values)
	case 1:
		w.vars = match.Vars{}
		x.wait(w, &left[0])
	default:
		x.wait(w, &left[0])
	}
}

// naming wants the value that a CoreLet's variable has.
type naming struct{ place }

func (w *naming) take(x *Proc, value api.Term) {
	x.vars = match.Vars{Has: slices.Clone(w.vars.Has), Values: slices.Clone(w.vars.Values)}
	x.vars.Has[w.node.Num], x.vars.Values[w.node.Num] = true, value
	x.begin(&w.node.Kids[1])
}

// choosing wants the value that a CoreCase's clauses are asked about.
type choosing struct{ place }

func (w *choosing) take(x *Proc, value api.Term) {
	w.back(x)
	if !x.choose(w.node.Kids[1:], value) {
		x.fail(atom("case_clause"))
	}
}

// trying hands on the value of what a CoreTry tries; of an error it asks its clauses.
type trying struct{ place }

func (w *trying) take(x *Proc, value api.Term) {
	x.tell(value)
}

func (w *trying) miss(x *Proc, raised api.Term) {
	w.back(x)
	if !x.choose(w.node.Kids[1:], raised) {
		x.raise(raised)
	}
}

// timing wants the time of a CoreReceive.
type timing struct{ place }

func (w *timing) take(x *Proc, value api.Term) {
	w.back(x)
	time, ok := timeOf(value)
	if !ok {
		x.fail(atom("timeout_value"))
		return
	}
	x.time = time
	x.next = (*Proc).receive
}

// choose goes on with the body of the first clause that takes t, if there is one.
func (x *Proc) choose(clauses []api.Core, t api.Term) bool {
	for i := range clauses {
		pattern, guard, body := clauses[i].Kids[0], clauses[i].Kids[1], &clauses[i].Kids[2]
		vars, ok := match.Match(pattern, t, x.vars)
		if ok && match.Guard(guard, vars) {
			x.vars = sharing(x.vars, vars)
			x.begin(body)
			return true
		}
	}
	return false
}

// sharing is the variables that a match has answered, of which those that had values ahead of it have these, not copies: what waits lower on the stack has them too.
func sharing(ahead, behind match.Vars) match.Vars {
	for i, has := range ahead.Has {
		if has {
			behind.Values[i] = ahead.Values[i]
		}
	}
	return behind
}

// maxTime is the greatest time.
const maxTime = 1<<31 - 1

// timeOf is the time that a term tells, if it tells one.
func timeOf(t api.Term) (int, bool) {
	switch {
	case term.Same(t, atom("infinity")):
		return never, true
	case t.Kind != api.Int || t.Neg || len(t.Limbs) > 1:
		return 0, false
	case len(t.Limbs) == 0:
		return 0, true
	default:
		return int(t.Limbs[0]), t.Limbs[0] <= maxTime
	}
}
