package sound_test

import (
	"math"
	"slices"
	"testing"

	"pigeonhole/api"
	"pigeonhole/sound"
)

// P9.1: variables of a function of two parameters and six variables.
func TestVariables(t *testing.T) {
	case2 := func(p, b api.Core) api.Core { return choose(x(0), clause(p, b)) }
	for i, c := range []struct {
		body  api.Core
		right bool
	}{
		{x(0), true}, {x(1), true}, {x(2), false}, {x(5), false}, {x(6), false}, {x(-1), false}, {x(math.MaxInt), false}, {x(math.MinInt), false}, {x(1 << 32), false}, {x(256), false},
		// a let
		{let(2, x(0), x(2)), true}, {let(5, a, x(5)), true}, {let(6, a, a), false}, {let(7, a, a), false}, {let(-1, a, a), false}, {let(-1, a, x(-1)), false}, {let(1<<32+2, a, a), false}, {let(math.MinInt, a, a), false}, {let(0, a, a), false}, {let(1, a, a), false}, {let(2, x(2), a), false}, {let(2, a, x(3)), false}, {let(2, a, tuple(x(0), x(1), x(2))), true},
		{let(2, a, let(2, a, a)), false}, {let(2, let(2, a, x(2)), x(2)), true}, {let(2, a, let(3, x(2), tuple(x(2), x(3)))), true}, {let(3, a, let(2, x(3), tuple(x(2), x(3)))), true}, {let(2, let(3, a, x(3)), x(3)), false}, {let(2, a, let(3, a, let(4, a, let(5, a, tuple(x(2), x(3), x(4), x(5)))))), true},
		// bound in one Kid, asked for in another
		{tuple(let(2, a, x(2)), x(2)), false}, {tuple(x(2), let(2, a, x(2))), false}, {tuple(let(2, a, x(2)), let(2, a, x(2))), true}, {of(api.CoreCons, let(2, a, a), x(2)), false}, {bif("+", let(2, a, a), x(2)), false}, {of(api.CoreApply, let(2, a, a), x(2)), false}, {call(0, let(2, a, a), x(2)), false}, {choose(let(2, a, a), clause(wildcard, x(2))), false}, {choose(let(2, a, a), clause(bind(2), x(2))), true}, {of(api.CoreTry, let(2, a, a), clause(wildcard, x(2))), false}, {numbered(api.CoreReceive, 1, let(2, a, a), x(2)), false},
		// patterns
		{case2(bind(2), x(2)), true}, {case2(bind(5), x(5)), true}, {case2(bind(6), a), false}, {case2(bind(-1), a), false}, {case2(bind(math.MaxInt), a), false}, {case2(bind(0), a), false}, {case2(bind(1), a), false}, {case2(same(0), a), true}, {case2(same(1), a), true}, {case2(same(2), a), false}, {case2(same(6), a), false}, {case2(same(-1), a), false}, {case2(bind(2), x(3)), false},
		{case2(pats(bind(2), bind(2)), a), false}, {case2(pats(bind(2), bind(3)), tuple(x(2), x(3))), true}, {case2(pats(bind(2), same(2)), a), true}, {case2(pats(same(2), bind(2)), a), false}, {case2(pats(pats(bind(2)), same(2)), a), true}, {case2(pats(bind(2), pats(same(2))), a), true}, {case2(pats(pats(bind(2)), pats(bind(2))), a), false}, {case2(pats(bind(2), wildcard, bind(3), pats(same(3), cons(same(2), bind(4))), same(4)), x(4)), true},
		{case2(cons(bind(2), same(2)), x(2)), true}, {case2(cons(same(2), bind(2)), a), false}, {case2(cons(bind(2), bind(2)), a), false}, {case2(cons(bind(3), bind(2)), tuple(x(2), x(3))), true}, {case2(both(bind(2), same(2)), x(2)), true}, {case2(both(same(2), bind(2)), a), false}, {case2(both(bind(2), bind(2)), a), false}, {case2(both(pats(bind(2)), pats(same(2), bind(3))), x(3)), true}, {case2(both(both(bind(2), bind(3)), both(same(3), same(2))), a), true},
		// a guard has what the pattern binds
		{choose(a, guarded(bind(2), a, x(2))), true}, {choose(a, guarded(bind(2), a, x(3))), false}, {choose(a, guarded(bind(2), a, x(0))), true}, {choose(a, guarded(pats(bind(2), bind(3)), a, bif("<", x(2), all(x(3), tuple(x(2)))))), true}, {choose(a, guarded(wildcard, x(2), x(0))), false}, {choose(a, guarded(wildcard, a, x(6))), false}, {choose(a, guarded(wildcard, a, x(-1))), false},
		{choose(a, of(api.CoreClause, bind(2), some(all(), all(a, x(2))), a)), true}, {choose(a, of(api.CoreClause, bind(2), some(all(), all(a, x(3))), a)), false},
		// a clause has nothing of another one, what is behind it nothing of it
		{choose(a, clause(bind(2), a), clause(wildcard, x(2))), false}, {choose(a, clause(wildcard, x(2)), clause(bind(2), a)), false}, {choose(a, clause(bind(2), x(2)), clause(bind(2), x(2))), true}, {choose(a, clause(bind(2), a), clause(same(2), a)), false}, {choose(a, clause(bind(2), a), guarded(wildcard, a, x(2))), false}, {choose(x(2), clause(bind(2), a)), false}, {tuple(choose(a, clause(bind(2), a)), x(2)), false}, {let(3, choose(a, clause(bind(2), a)), x(2)), false}, {let(3, choose(a, clause(bind(2), a)), choose(a, clause(bind(2), x(3)))), true},
		{of(api.CoreTry, x(0), clause(bind(2), x(2)), clause(pats(bind(3), bind(2)), tuple(x(2), x(3)))), true}, {of(api.CoreTry, x(2), clause(bind(2), a)), false}, {of(api.CoreReceive, clause(bind(2), x(2)), clause(bind(3), x(2))), false}, {of(api.CoreReceive, clause(bind(2), x(2)), clause(bind(2), x(2))), true},
		// what is bound is bound in all that is within
		{case2(bind(2), let(2, a, a)), false}, {case2(bind(2), case2(bind(2), a)), false}, {case2(bind(2), case2(same(2), x(2))), true}, {case2(bind(2), case2(bind(3), case2(pats(same(2), same(3)), tuple(x(2), x(3))))), true}, {let(2, a, case2(bind(2), a)), false}, {let(2, a, case2(same(2), a)), true}, {case2(bind(2), let(3, a, case2(bind(3), a))), false},
		{choose(let(2, a, a), clause(bind(3), let(2, a, tuple(x(2), x(3))))), true}, {case2(bind(2), numbered(api.CoreReceive, 1, clause(same(2), x(2)), x(2), x(2))), true},
	} {
		want := api.ErrShape
		if c.right {
			want = api.OK
		}
		if got := checkBody(c.body); got != want {
			t.Errorf("%d, %s: %v, not %v", i, sound.Show(c.body), got, want)
		}
	}
}

// P9.1: variables at Vars and beyond, Vars from none to the most.
func TestVariablesOfVars(t *testing.T) {
	for _, vars := range []int{0, 1, 2, 12, 63, 64, 65, 99, 100} {
		for num := range 103 {
			arity := min(vars, 12)
			for i, body := range []api.Core{let(num, a, x(num)), choose(a, clause(bind(num), x(num))), choose(a, clause(cons(wildcard, bind(num)), x(num)))} {
				want := api.ErrShape
				if arity <= num && num < vars {
					want = api.OK
				}
				if got := sound.Check(api.Program{Funcs: []api.Func{{Arity: arity, Vars: vars, Body: body}}}); got != want {
					t.Errorf("%d of %d, %d: %v, not %v", num, vars, i, got, want)
				}
			}
			want := api.ErrShape
			if num < arity {
				want = api.OK
			}
			for i, body := range []api.Core{x(num), choose(a, clause(same(num), a))} {
				if got := sound.Check(api.Program{Funcs: []api.Func{{Arity: arity, Vars: vars, Body: body}}}); got != want {
					t.Errorf("the parameter %d of %d, %d: %v, not %v", num, arity, i, got, want)
				}
			}
		}
	}
	all := x(99)
	for num := 99; num >= 0; num-- {
		all = let(num, a, all)
	}
	for vars := range 102 {
		if got := sound.Check(api.Program{Funcs: []api.Func{{Vars: vars, Body: all}}}); (got == api.OK) != (vars == 100) {
			t.Errorf("a hundred variables, Vars %d: %v", vars, got)
		}
	}
}

// P9.2
func TestBound(t *testing.T) {
	for i, c := range []struct {
		node api.Core
		want []int
	}{
		{api.Core{}, nil}, {a, nil}, {x(1), nil}, {same(1), nil}, {wildcard, nil}, {let(1, a, a), nil}, {call(1), nil}, {fun(1), nil}, {numbered(api.CoreReceive, 1, a, a), nil}, {numbered(99, 3), nil}, {numbered(0, 3), nil},
		{bind(0), []int{0}}, {bind(7), []int{7}}, {bind(-7), []int{-7}}, {bind(math.MaxInt), []int{math.MaxInt}}, {bind(math.MinInt), []int{math.MinInt}},
		{pats(bind(3), bind(1)), []int{1, 3}}, {pats(bind(3), bind(1), bind(3), bind(-2), bind(1)), []int{-2, 1, 3}}, {pats(bind(10), bind(9), bind(100)), []int{9, 10, 100}}, {cons(bind(2), pats(bind(1))), []int{1, 2}}, {both(bind(2), bind(2)), []int{2}},
		{choose(a, clause(bind(4), a), clause(bind(3), choose(a, clause(bind(5), a)))), []int{3, 4, 5}}, {tuple(bind(1)), []int{1}}, {numbered(api.PatBind, 2, bind(1), same(0)), []int{1, 2}}, {let(9, bind(1), bind(0)), []int{0, 1}}, {some(all(bind(1))), []int{1}}, {of(200, of(0, bind(3))), []int{3}}, {numbered(api.CoreVar, 1, bind(2)), []int{2}}, {api.Core{Kind: api.PatBind, Num: 4, Text: "x", Term: atom("a")}, []int{4}},
	} {
		if got := sound.Bound(c.node); !slices.Equal(got, c.want) {
			t.Errorf("%d, %s: %v, not %v", i, sound.Show(c.node), got, c.want)
		}
	}
}

// P9.2
func TestFree(t *testing.T) {
	for i, c := range []struct {
		node api.Core
		want []int
	}{
		{api.Core{}, nil}, {a, nil}, {wildcard, nil}, {bind(1), nil}, {call(1), nil}, {fun(1), nil}, {let(1, a, a), nil}, {numbered(99, 3), nil}, {numbered(0, 3), nil},
		{x(0), []int{0}}, {x(7), []int{7}}, {x(-7), []int{-7}}, {same(3), []int{3}}, {x(math.MaxInt), []int{math.MaxInt}}, {same(math.MinInt), []int{math.MinInt}},
		{tuple(x(3), x(1), x(3), x(-2), same(10), x(9)), []int{-2, 1, 3, 9, 10}}, {fun(1, x(3), x(2)), []int{2, 3}}, {call(0, x(1), tuple(x(0))), []int{0, 1}}, {of(api.CoreApply, x(1), x(2)), []int{1, 2}}, {bif("f", x(1)), []int{1}}, {said(api.CoreFail, "", x(1)), []int{1}},
		// a CoreLet
		{let(1, x(0), tuple(x(1), x(2))), []int{0, 2}}, {let(1, x(1), x(1)), []int{1}}, {let(1, x(2), x(1)), []int{2}}, {let(-1, a, tuple(x(-1), x(1))), []int{1}}, {let(1, a, let(2, x(1), tuple(x(1), x(2), x(3)))), []int{3}}, {let(1, let(2, a, x(2)), x(2)), []int{2}}, {let(1, a, let(1, x(1), x(1))), nil}, {tuple(let(1, a, x(1)), x(1)), []int{1}}, {tuple(let(1, a, a), x(1)), []int{1}},
		{numbered(api.CoreLet, 1), nil}, {numbered(api.CoreLet, 1, x(1)), []int{1}}, {numbered(api.CoreLet, 1, a, x(1), x(1), tuple(x(1), x(2))), []int{2}}, {numbered(api.CoreLet, 1, x(0), x(1), x(2)), []int{0, 2}}, {let(1, bind(2), x(2)), []int{2}}, {numbered(api.CoreLet, 1, a, bind(2), x(2)), []int{2}},
		// a CoreClause
		{clause(bind(1), x(1)), nil}, {clause(bind(1), x(2)), []int{2}}, {guarded(bind(1), x(1), x(1), x(2)), []int{2}}, {clause(wildcard, x(1)), []int{1}}, {of(api.CoreClause), nil}, {of(api.CoreClause, x(1)), []int{1}}, {of(api.CoreClause, bind(1)), nil}, {of(api.CoreClause, bind(1), x(1)), nil}, {of(api.CoreClause, bind(1), x(1), x(1), tuple(x(1)), x(2)), []int{2}}, {of(api.CoreClause, wildcard, bind(1), x(1)), []int{1}}, {of(api.CoreClause, wildcard, pats(bind(1)), x(1)), []int{1}}, {of(api.CoreClause, wildcard, some(), bind(1), x(1)), []int{1}},
		{clause(pats(bind(1), cons(bind(2), same(1)), same(2), same(3)), tuple(x(1), x(2), x(4))), []int{3, 4}}, {clause(both(same(1), bind(1)), x(1)), []int{1}}, {numbered(api.CoreClause, 1, wildcard, some(), x(1)), []int{1}},
		{choose(x(1), clause(bind(1), x(1))), []int{1}}, {choose(a, clause(bind(1), x(1)), clause(bind(2), x(1))), []int{1}}, {choose(a, clause(bind(1), a), clause(wildcard, x(1))), []int{1}}, {clause(bind(1), clause(bind(2), tuple(x(1), x(2), x(3)))), []int{3}}, {tuple(clause(bind(1), x(1)), x(1)), []int{1}}, {choose(bind(1), clause(wildcard, x(1))), []int{1}}, {numbered(api.CoreReceive, 1, clause(bind(1), x(1)), x(1), x(2)), []int{1, 2}}, {of(api.CoreTry, x(0), clause(pats(bind(1), bind(2)), x(2))), []int{0}},
		// patterns of their own
		{pats(bind(3), same(3)), nil}, {pats(same(3), bind(3)), []int{3}}, {cons(bind(3), same(3)), nil}, {cons(same(3), bind(3)), []int{3}}, {both(bind(3), same(3)), nil}, {both(same(3), bind(3)), []int{3}}, {pats(bind(1), x(1)), nil}, {pats(pats(bind(1)), cons(same(1), bind(2)), both(same(2), x(2)), same(4)), []int{4}}, {of(api.PatCons, bind(1), same(1), bind(2), same(2)), nil}, {of(api.PatBoth, bind(1), same(1), bind(2), same(2), same(3)), []int{3}}, {pats(bind(1), tuple(x(1), x(2))), []int{2}}, {pats(bind(1), clause(wildcard, x(1))), nil}, {pats(bind(1), let(2, x(1), x(2))), nil},
		{numbered(api.PatBind, 1, same(1)), nil}, {numbered(api.PatBind, 1, same(2), x(1), tuple(x(1), same(3))), []int{2, 3}}, {numbered(api.PatBind, 1, bind(2), same(2)), []int{2}}, {pats(numbered(api.PatBind, 1, same(1)), same(1)), nil}, {numbered(api.PatBind, 1, pats(bind(2)), same(2)), []int{2}},
		// of all others each Kid has what is bound ahead
		{tuple(bind(1), x(1)), []int{1}}, {tuple(pats(bind(1)), x(1)), []int{1}}, {some(bind(1), x(1)), []int{1}}, {all(bind(1), x(1)), []int{1}}, {of(99, bind(1), x(1)), []int{1}}, {of(0, bind(1), same(1)), []int{1}}, {of(api.PatAny, bind(1), same(1)), []int{1}}, {of(api.PatConst, bind(1), same(1)), []int{1}}, {numbered(api.PatSame, 2, bind(1), same(1)), []int{1, 2}}, {numbered(api.CoreVar, 2, x(1), bind(2)), []int{1, 2}}, {of(api.CoreCase, bind(1), x(1)), []int{1}}, {call(0, bind(1), x(1)), []int{1}}, {bif("+", bind(1), x(1)), []int{1}}, {of(api.CoreCons, bind(1), x(1)), []int{1}}, {of(api.CoreApply, bind(1), x(1)), []int{1}}, {fun(0, bind(1), x(1)), []int{1}}, {of(api.CoreReceive, bind(1), x(1)), []int{1}}, {of(api.CoreTry, bind(1), x(1)), []int{1}}, {said(api.CoreFail, "", bind(1), x(1)), []int{1}}, {of(api.CoreConst, bind(1), x(1)), []int{1}}, {let(2, bind(1), x(1)), []int{1}},
	} {
		if got := sound.Free(c.node); !slices.Equal(got, c.want) {
			t.Errorf("%d, %s: %v, not %v", i, sound.Show(c.node), got, c.want)
		}
	}
}

// P9.2: what a clause's first Kid, or a Kid of a row of patterns, binds is what Bound tells of it, whatever it is; within it each node goes by its own rule.
func TestFreeBehindWhatIsNoPattern(t *testing.T) {
	for i, c := range []struct {
		node api.Core
		want []int
	}{
		{clause(tuple(bind(1)), x(1)), nil}, {clause(tuple(bind(1), x(1)), x(1)), []int{1}}, {clause(choose(a, clause(bind(1), a), clause(wildcard, x(1))), x(1)), []int{1}}, {clause(let(2, bind(1), a), tuple(x(1), x(2))), []int{2}},
		{pats(tuple(bind(1)), same(1)), nil}, {pats(clause(bind(1), a), same(1)), nil}, {pats(let(1, a, a), same(1)), []int{1}}, {cons(some(bind(1), same(1)), same(1)), []int{1}}, {both(numbered(api.PatBind, 2, bind(1), same(1)), pats(same(1), same(2))), []int{1}}, {clause(numbered(api.PatBind, 2, bind(1)), tuple(x(1), x(2))), nil},
	} {
		if got := sound.Free(c.node); !slices.Equal(got, c.want) {
			t.Errorf("%d, %s: %v, not %v", i, sound.Show(c.node), got, c.want)
		}
	}
}

// The chapter's examples.
func TestExamples(t *testing.T) {
	about := func(subject, pattern api.Core) api.Program {
		return api.Program{Funcs: []api.Func{{Arity: 1, Vars: 2, Body: choose(subject, clause(pattern, x(1)))}}}
	}
	if got := sound.Check(about(x(0), bind(1))); got != api.OK {
		t.Error(got)
	}
	if got := sound.Check(about(x(1), bind(1))); got != api.ErrShape {
		t.Error(got)
	}
	if got := sound.Check(about(x(0), bind(0))); got != api.ErrShape {
		t.Error(got)
	}
	if s := sound.Show(about(x(0), bind(1)).Funcs[0].Body); s != "case (var) (clause (bind 1) (any) (var 1))" {
		t.Error(s)
	}
	if got := sound.Bound(pats(bind(3), bind(1))); !slices.Equal(got, []int{1, 3}) {
		t.Error(got)
	}
	if got := sound.Free(let(1, x(0), tuple(x(1), x(2)))); !slices.Equal(got, []int{0, 2}) {
		t.Error(got)
	}
}
