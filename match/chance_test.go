package match_test

import (
	"math/rand"
	"slices"
	"testing"

	"pigeonhole/api"
	"pigeonhole/match"
	"pigeonhole/term"
)

// made is a term by chance, of few kinds of parts, so that same ones come often.
func made(r *rand.Rand, size int) api.Term {
	if size < 2 {
		return []api.Term{
			num(0), num(1), num(2), num(-1), num(1 << 40), atom("a"), atom("b"), atom("true"), atom("false"),
			ref(1), ref(2), pid(1), fun(1), fun(1, num(1)), tuple(), list(),
		}[r.Intn(16)]
	}
	var items []api.Term
	for range 1 + r.Intn(3) {
		items = append(items, made(r, size/3))
	}
	switch r.Intn(5) {
	case 0, 1:
		return tuple(items...)
	case 2:
		if tail := made(r, size/3); tail.Kind != api.List {
			return improper(tail, items...)
		}
	}
	return list(items...)
}

// count is how many variables there are in what is made by chance.
const count = 4

// someVars are variables by chance, of which some have values.
func someVars(r *rand.Rand) match.Vars {
	v := match.New(count)
	for i := range count {
		if r.Intn(2) == 0 {
			v.Has[i], v.Values[i] = true, made(r, r.Intn(6))
		}
	}
	return v
}

// someNode is a node by chance, of any Kind, with whatever it has.
func someNode(r *rand.Rand, depth int) api.Core {
	c := api.Core{Kind: api.CoreKind(r.Intn(35)), Num: r.Intn(count+2) - 1, Term: made(r, r.Intn(4)), Text: []string{"hd", "==", "+", "not", "self", "++"}[r.Intn(6)]}
	if depth > 0 {
		for range r.Intn(4) {
			c.Kids = append(c.Kids, someNode(r, depth-1))
		}
	}
	return c
}

// patternOf is a pattern by chance that is likely to match t.
func patternOf(r *rand.Rand, t api.Term, depth int) api.Core {
	n := r.Intn(count)
	if depth == 0 {
		return []api.Core{wild(), bind(n), same(n), is(t), bind(n)}[r.Intn(5)]
	}
	switch r.Intn(12) {
	case 0:
		return wild()
	case 1:
		return bind(n)
	case 2:
		return same(n)
	case 3:
		return is(t)
	case 4, 5, 6:
		return both(patternOf(r, t, depth-1), patternOf(r, t, depth-1))
	case 7:
		if r.Intn(6) == 0 {
			return someNode(r, 2)
		}
	}
	if h, rest, ok := term.Split(t); ok {
		return cons(patternOf(r, h, depth-1), patternOf(r, rest, depth-1))
	}
	if t.Kind != api.Tuple {
		return bind(n)
	}
	var kids []api.Core
	for _, item := range t.Items {
		kids = append(kids, patternOf(r, item, depth-1))
	}
	return pats(kids...)
}

// matchHolds asks that Match comes to what the chapter says once more.
func matchHolds(t *testing.T, p api.Core, x api.Term, v match.Vars) bool {
	t.Helper()
	want := saidOfMatch(p, x, v)
	comes(t, want, p, x, v)
	return want != "no"
}

// P11.2
func TestPatternsByChance(t *testing.T) {
	r := rand.New(rand.NewSource(11))
	matched := 0
	const runs = 40000
	for range runs {
		x := made(r, r.Intn(40))
		p, v := patternOf(r, x, r.Intn(6)), someVars(r)
		if matchHolds(t, p, x, v) {
			matched++
		}
		matchHolds(t, p, made(r, r.Intn(20)), v)
	}
	if matched < runs/10 || matched > runs*9/10 {
		t.Errorf("%d of %d match", matched, runs)
	}
}

// P11.2: nodes of any Kind, with whatever they have.
func TestNodesByChance(t *testing.T) {
	r := rand.New(rand.NewSource(12))
	for range 40000 {
		c, v := someNode(r, 3), someVars(r)
		matchHolds(t, c, made(r, r.Intn(12)), v)
		for _, g := range []api.Core{c, some(c), some(all(c, c))} {
			guards(t, saidOfGuard(g, v), g, v)
		}
	}
}

// expression is a guard's expression by chance.
func expression(r *rand.Rand, depth int) api.Core {
	if depth == 0 {
		switch r.Intn(6) {
		case 0, 1:
			return []api.Core{yes, no}[r.Intn(2)]
		case 2, 3:
			return the(made(r, r.Intn(5)))
		default:
			return x(r.Intn(count))
		}
	}
	kids := func(n int) []api.Core {
		var out []api.Core
		for range n {
			out = append(out, expression(r, r.Intn(depth)))
		}
		return out
	}
	switch r.Intn(10) {
	case 0:
		return row(kids(r.Intn(4))...)
	case 1:
		return cell(kids(2)...)
	case 2, 3:
		return all(kids(r.Intn(4))...)
	case 4, 5:
		return some(kids(r.Intn(4))...)
	case 6:
		if r.Intn(5) == 0 {
			return someNode(r, 2)
		}
	}
	built := signatures(forGuards)
	s := built[r.Intn(len(built))]
	return bif(s.name, kids(s.arity)...)
}

// P11.3, P11.4
func TestGuardsByChance(t *testing.T) {
	r := rand.New(rand.NewSource(13))
	passed := 0
	const runs = 40000
	for range runs {
		var kids []api.Core
		for range r.Intn(4) {
			kids = append(kids, expression(r, r.Intn(5)))
		}
		g, v := some(kids...), someVars(r)
		want := saidOfGuard(g, v)
		guards(t, want, g, v)
		if want && len(kids) > 0 {
			passed++
		}
		// Whether an expression fails, and else which value it has.
		e := expression(r, r.Intn(5))
		has := some(bif("==", e, e))
		guards(t, saidOfGuard(has, v), has, v)
		if saidOfGuard(has, v) {
			guards(t, true, some(bif("==", e, the(valueOf(e, chain(v))))), v)
		}
	}
	if passed < runs/10 || passed > runs*9/10 {
		t.Errorf("%d of %d are true", passed, runs)
	}
}

// P11.2, R4: patterns and terms whose parts are one in memory, as often as they stand there; the same as if each were its own.
func TestKidsInCommonByChance(t *testing.T) {
	r := rand.New(rand.NewSource(14))
	matched := 0
	for range 40000 {
		a, b := made(r, r.Intn(4)), made(r, r.Intn(4))
		x := []api.Term{tuple(a, b), list(a, b), improper(atom("a"), a, b), tuple(tuple(a, b), tuple(a, b)), tuple(a, a)}[r.Intn(5)]
		// Each one is put together of those ahead of it, the newest ones most often.
		pool := []api.Core{wild(), bind(0), bind(1), same(0), same(2), pats(bind(1), wild()), pats(wild(), bind(1)), pats(same(1), wild()), pats(wild(), same(1)), cons(bind(1), wild()), cons(wild(), bind(1)), cons(same(1), wild())}
		pool = slices.DeleteFunc(pool, func(c api.Core) bool {
			return r.Intn(2) == 0 || len(c.Kids) > 0 && (c.Kind == api.PatTuple) != (x.Kind == api.Tuple)
		})
		pick := func() api.Core { return append(pool, wild())[max(r.Intn(len(pool)+1), r.Intn(len(pool)+1))] }
		for range 3 + r.Intn(9) {
			switch r.Intn(8) {
			case 0:
				pool = append(pool, pats(pick(), pick()))
			case 1:
				pool = append(pool, cons(pick(), pick()))
			default:
				pool = append(pool, both(pick(), pick()))
			}
		}
		p, v := pool[len(pool)-1], someVars(r)
		if v.Has[2] && r.Intn(2) == 0 {
			v.Values[2] = slices.Concat(x.Items, []api.Term{x})[r.Intn(len(x.Items)+1)]
		}
		if matchHolds(t, p, x, v) {
			matched++
		}
	}
	if matched < 3000 {
		t.Errorf("%d match", matched)
	}
}
