package match_test

import (
	"math/rand"
	"testing"

	"pigeonhole/api"
	"pigeonhole/match"
	"pigeonhole/term"
)

// walk is a pattern that binds the variable 0 in some place of t, and asks for nothing else, and what stands there.
func walk(r *rand.Rand, t api.Term, steps int) (api.Core, api.Term) {
	if r.Intn(4) == 0 && steps > 0 {
		p, part := walk(r, t, steps-1)
		return [][]api.Core{{both(wild(), p)}, {both(p, wild())}}[r.Intn(2)][0], part
	}
	switch {
	case steps > 0 && t.Kind == api.Tuple && len(t.Items) > 0:
		i := r.Intn(len(t.Items))
		p, part := walk(r, t.Items[i], steps-1)
		kids := times(len(t.Items), wild())
		kids[i] = p
		return pats(kids...), part
	case steps > 0 && t.Kind == api.List && len(t.Items) > 0:
		if r.Intn(2) == 0 {
			p, part := walk(r, t.Items[0], steps-1)
			return cons(p, wild()), part
		}
		rest := api.Term{Kind: api.List, Items: t.Items[1:], Tail: t.Tail}
		if len(t.Items) == 1 && len(t.Tail) == 1 {
			rest = t.Tail[0]
		}
		p, part := walk(r, rest, steps-1)
		return cons(wild(), p), part
	}
	return bind(0), t
}

// P11.5: what is bound has its value's place in t.
func TestBoundInItsPlace(t *testing.T) {
	r := rand.New(rand.NewSource(21))
	for range 20000 {
		x := made(r, r.Intn(200))
		p, part := walk(r, x, r.Intn(12))
		fits(t, p, x, match.New(1), part)
		fits(t, p, x, vars(num(5), num(6)), part, num(6))
	}
}

// P11.5: a pattern that binds a variable in each place in which t has something that is not a tuple or a list with items: t can be put together again.
func TestPutTogetherAgain(t *testing.T) {
	r := rand.New(rand.NewSource(22))
	for range 5000 {
		x := made(r, r.Intn(100))
		n := 0
		p := apart(x, &n)
		out, ok := match.Match(p, x, match.Vars{Has: make([]bool, n), Values: make([]api.Term, n)})
		if !ok || len(out.Has) != n {
			t.Fatalf("%s of %s: %s", written(p), entire(x), told(out, ok))
		}
		if got := joined(p, func(p api.Core) api.Term { return out.Values[p.Num] }); entire(got) != entire(x) {
			t.Errorf("%s of %s: %s", written(p), entire(x), entire(got))
		}
	}
}

func apart(t api.Term, n *int) api.Core {
	if h, r, ok := term.Split(t); ok {
		first := apart(h, n)
		return cons(first, apart(r, n))
	}
	if t.Kind != api.Tuple {
		*n++
		return bind(*n - 1)
	}
	var kids []api.Core
	for _, item := range t.Items {
		kids = append(kids, apart(item, n))
	}
	return pats(kids...)
}

// joined is the term that a pattern of PatTuples and PatCons's is like, with what leaf tells of all others; a zero one, if there is none.
func joined(p api.Core, leaf func(p api.Core) api.Term) api.Term {
	var items []api.Term
	for _, kid := range p.Kids {
		items = append(items, joined(kid, leaf))
	}
	switch p.Kind {
	case api.PatTuple:
		return tuple(items...)
	case api.PatCons:
		return term.Cons(items[0], items[1])
	}
	return leaf(p)
}

// exact is a pattern of PatConst, PatTuple and PatCons by chance.
func exact(r *rand.Rand, size int) api.Core {
	if size < 2 {
		return is(made(r, r.Intn(4)))
	}
	if r.Intn(2) == 0 {
		return cons(exact(r, size/2), exact(r, size/2))
	}
	var kids []api.Core
	for range r.Intn(4) {
		kids = append(kids, exact(r, size/3))
	}
	return pats(kids...)
}

// neighbours are terms that are nearly t.
func neighbours(t api.Term) []api.Term {
	out := []api.Term{tuple(t), list(t), num(3), list(), tuple(), improper(num(0), t)}
	with := func(items []api.Term) {
		changed := t
		changed.Items = items
		out = append(out, changed)
	}
	for i := range t.Items {
		for _, item := range neighboursOf(t.Items[i]) {
			items := append([]api.Term{}, t.Items...)
			items[i] = item
			with(items)
		}
		with(append(append([]api.Term{}, t.Items[:i]...), t.Items[i+1:]...))
		with(append(append([]api.Term{}, t.Items[:i]...), t.Items[max(0, i-1):]...))
	}
	if t.Kind == api.List {
		changed := t
		if changed.Tail = nil; len(t.Tail) == 0 {
			changed.Tail = []api.Term{atom("a")}
		}
		out = append(out, changed)
	}
	if t.Kind == api.Tuple {
		out = append(out, list(t.Items...), fun(1, t.Items...))
	}
	return out
}

func neighboursOf(t api.Term) []api.Term {
	if len(t.Items) == 0 {
		return []api.Term{num(1), atom("a"), list(), tuple(), pid(1), list(t)}
	}
	return neighbours(t)[:8]
}

// P11.5: without variables of its own a pattern matches one term alone, if it is made of PatConst, PatTuple and PatCons.
func TestOneTermAlone(t *testing.T) {
	r := rand.New(rand.NewSource(23))
	others := kinds()
	for range 600 {
		p := exact(r, r.Intn(12))
		one := joined(p, func(p api.Core) api.Term { return p.Term })
		v := someVars(r)
		comes(t, shown(v), p, one, v)
		for _, x := range append(neighbours(one), others...) {
			if entire(x) != entire(one) {
				refuses(t, p, x, v)
			} else {
				comes(t, shown(v), p, x, v)
			}
		}
	}
	// A PatConst that is not right: none.
	for _, flaw := range flaws() {
		for _, p := range []api.Core{is(flaw), pats(is(flaw)), cons(is(flaw), is(list())), cons(is(num(1)), is(flaw)), pats(is(num(1)), pats(is(flaw)))} {
			for _, x := range append(others, tuple(flaw), list(flaw), improper(flaw, num(1))) {
				refuses(t, p, x, match.New(0))
			}
		}
	}
}
