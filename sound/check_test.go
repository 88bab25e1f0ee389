package sound_test

import (
	"fmt"
	"math"
	"strings"
	"testing"

	"pigeonhole/api"
	"pigeonhole/sound"
)

// A role is a letter: e an expression, k a Kid of a CoreFun, c a clause, p a pattern, g a guard, l a GuardAll of a guard, t a guard's expression.

// standing is right bodies, each with a hole: that is for what has the role.
var standing = map[rune][]func(hole api.Core) api.Core{
	'e': {
		func(c api.Core) api.Core { return c },
		func(c api.Core) api.Core { return tuple(c) },
		func(c api.Core) api.Core { return tuple(a, c, a) },
		func(c api.Core) api.Core { return of(api.CoreCons, c, a) },
		func(c api.Core) api.Core { return of(api.CoreCons, a, c) },
		func(c api.Core) api.Core { return let(2, c, a) },
		func(c api.Core) api.Core { return let(2, a, c) },
		func(c api.Core) api.Core { return call(0, a, c) },
		func(c api.Core) api.Core { return of(api.CoreApply, c) },
		func(c api.Core) api.Core { return of(api.CoreApply, a, c) },
		func(c api.Core) api.Core { return bif("print", c) },
		func(c api.Core) api.Core { return bif("+", a, c) },
		func(c api.Core) api.Core { return choose(c, otherwise) },
		func(c api.Core) api.Core { return choose(a, clause(wildcard, c)) },
		func(c api.Core) api.Core { return choose(a, otherwise, clause(bind(2), c)) },
		func(c api.Core) api.Core { return of(api.CoreTry, c, otherwise) },
		func(c api.Core) api.Core { return of(api.CoreTry, a, clause(wildcard, c)) },
		func(c api.Core) api.Core { return of(api.CoreReceive, clause(wildcard, c)) },
		func(c api.Core) api.Core { return numbered(api.CoreReceive, 1, c, a) },
		func(c api.Core) api.Core { return numbered(api.CoreReceive, 1, otherwise, a, c) },
		func(c api.Core) api.Core { return said(api.CoreFail, "badmatch", c) },
	},
	'k': {
		func(c api.Core) api.Core { return fun(1, c) },
		func(c api.Core) api.Core { return fun(3, x(0), x(1), c) },
	},
	'c': {
		func(c api.Core) api.Core { return choose(a, c) },
		func(c api.Core) api.Core { return choose(a, otherwise, c, otherwise) },
		func(c api.Core) api.Core { return of(api.CoreTry, a, c) },
		func(c api.Core) api.Core { return of(api.CoreTry, a, otherwise, c) },
		func(c api.Core) api.Core { return of(api.CoreReceive, c) },
		func(c api.Core) api.Core { return of(api.CoreReceive, otherwise, c) },
		func(c api.Core) api.Core { return numbered(api.CoreReceive, 1, c, a, a) },
		func(c api.Core) api.Core { return numbered(api.CoreReceive, 1, otherwise, c, a, a) },
	},
	'p': {
		func(c api.Core) api.Core { return choose(a, clause(c, a)) },
		func(c api.Core) api.Core { return choose(a, clause(pats(c), a)) },
		func(c api.Core) api.Core { return choose(a, clause(pats(wildcard, c, wildcard), a)) },
		func(c api.Core) api.Core { return choose(a, clause(cons(c, wildcard), a)) },
		func(c api.Core) api.Core { return choose(a, clause(cons(wildcard, c), a)) },
		func(c api.Core) api.Core { return of(api.CoreTry, a, clause(both(c, wildcard), a)) },
		func(c api.Core) api.Core { return of(api.CoreReceive, clause(both(bind(2), c), a)) },
	},
	'g': {
		func(c api.Core) api.Core { return choose(a, of(api.CoreClause, wildcard, c, a)) },
		func(c api.Core) api.Core { return of(api.CoreReceive, of(api.CoreClause, bind(2), c, a)) },
	},
	'l': {
		func(c api.Core) api.Core { return choose(a, of(api.CoreClause, wildcard, some(c), a)) },
		func(c api.Core) api.Core { return choose(a, of(api.CoreClause, wildcard, some(all(), c, all()), a)) },
	},
	't': {
		func(c api.Core) api.Core { return choose(a, guarded(wildcard, a, c)) },
		func(c api.Core) api.Core { return choose(a, guarded(wildcard, a, a, c, a)) },
		func(c api.Core) api.Core { return choose(a, guarded(wildcard, a, tuple(c))) },
		func(c api.Core) api.Core { return choose(a, guarded(wildcard, a, of(api.CoreCons, c, a))) },
		func(c api.Core) api.Core { return choose(a, guarded(wildcard, a, of(api.CoreCons, a, c))) },
		func(c api.Core) api.Core { return choose(a, guarded(wildcard, a, bif("hd", c))) },
		func(c api.Core) api.Core { return choose(a, guarded(wildcard, a, bif("==", a, c))) },
		func(c api.Core) api.Core { return choose(a, guarded(wildcard, a, all(c, a))) },
		func(c api.Core) api.Core { return choose(a, guarded(wildcard, a, all(a, some(a, c)))) },
		func(c api.Core) api.Core { return choose(a, guarded(wildcard, a, some(c, a))) },
	},
}

type sample struct {
	node  api.Core
	roles string
}

// samples is right nodes, at least one of each Kind, with the roles that they may have; and nodes that may have none.
func samples() []sample {
	out := []sample{
		{a, "et"}, {holding(api.CoreConst, integer()), "et"}, {holding(api.CoreConst, api.Term{Kind: api.Fun, Num: 99}), "et"},
		{x(0), "etk"}, {x(1), "etk"},
		{tuple(), "et"}, {tuple(a, x(0), tuple(x(1))), "et"}, {tuple(call(2)), "e"}, {tuple(all(a, a)), "t"},
		{of(api.CoreCons, a, x(0)), "et"}, {of(api.CoreCons, of(api.CoreCons, a, a), bif("self")), "e"},
		{let(5, x(0), x(5)), "e"}, {let(4, a, let(5, x(4), x(5))), "e"},
		{call(2), "e"}, {call(0, a, x(1)), "e"}, {call(4, repeated(a, 12)...), "e"},
		{of(api.CoreApply, a), "e"}, {of(api.CoreApply, a, x(0), a), "e"}, {of(api.CoreApply, repeated(a, 99)...), "e"},
		{bif("self"), "e"}, {bif("hd", x(0)), "et"}, {bif("++", a, a), "e"}, {bif("=/=", a, a), "et"}, {bif("setelement", a, a, a), "e"}, {bif("exit", a), "e"}, {bif("exit", a, a), "e"}, {bif("is_function", a, a), "et"}, {bif("hd", bif("self")), "e"}, {bif("hd", some(a, a)), "t"},
		{fun(0), "e"}, {fun(1, x(0)), "e"}, {fun(2), "e"}, {fun(3, x(1), x(1), x(0)), "e"},
		{choose(a, otherwise), "e"}, {choose(x(0), clause(bind(5), x(5)), otherwise), "e"},
		{of(api.CoreReceive, otherwise), "e"}, {numbered(api.CoreReceive, 1, a, a), "e"}, {numbered(api.CoreReceive, 1, otherwise, otherwise, a, a), "e"},
		{of(api.CoreTry, a, otherwise), "e"},
		{said(api.CoreFail, ""), "e"}, {said(api.CoreFail, "badmatch", x(0)), "e"}, {said(api.CoreFail, strings.Repeat("a", 40)), "e"},
		{otherwise, "c"}, {guarded(bind(5), x(5), x(5), bif("<", x(5), x(0))), "c"},
		{wildcard, "p"}, {bind(5), "p"}, {same(0), "p"}, {holding(api.PatConst, atom("")), "p"}, {holding(api.PatConst, api.Term{Kind: api.Pid}), "p"},
		{pats(), "p"}, {pats(bind(4), same(4), pats(bind(5))), "p"}, {cons(bind(4), same(4)), "p"}, {both(bind(4), pats(same(4), same(0))), "p"},
		{all(), "l"}, {all(a), "l"}, {all(a, x(0)), "lt"}, {all(a, a, a), "l"}, {all(bif("self")), ""}, {all(all(a, a), a), "lt"},
		{some(), "g"}, {some(all()), "g"}, {some(a, a), "t"}, {some(all(), all()), "g"}, {some(all(a, a), all(a, a)), "gt"}, {some(all(a, a), all(a, a), all(a, a)), "g"}, {some(all(a, a), a), "t"},
		{api.Core{}, ""}, {holding(0, atom("a")), ""},
	}
	for _, kind := range []api.CoreKind{0, 15, 16, 17, 18, 19, 27, 28, 29, 32, 33, 127, 128, 129, 254, 255} {
		out = append(out, sample{of(kind), ""}, sample{of(kind, a, a), ""}, sample{of(kind, wildcard, some(), a), ""})
	}
	return out
}

// P9.1: each Kind of node where it may stand, and where it may not.
func TestWhereNodesMayStand(t *testing.T) {
	met := map[api.CoreKind]int{}
	for i, s := range samples() {
		for role, bodies := range standing {
			for k, body := range bodies {
				want := api.ErrShape
				if strings.ContainsRune(s.roles, role) {
					want = api.OK
					met[s.node.Kind]++
				}
				if got := checkBody(body(s.node)); got != want {
					t.Errorf("%d, %s as %c, %d: %v, not %v", i, sound.Show(s.node), role, k, got, want)
				}
			}
		}
	}
	if len(met) != 23 {
		t.Errorf("%d Kinds", len(met))
	}
}

// fields is the one field that nodes of a Kind have beside their Kids; of all others none.
var fields = map[api.CoreKind]string{
	api.CoreConst: "Term", api.PatConst: "Term", api.CoreBif: "Text", api.CoreFail: "Text",
	api.CoreVar: "Num", api.CoreLet: "Num", api.CoreCall: "Num", api.CoreFun: "Num", api.CoreReceive: "Num", api.PatBind: "Num", api.PatSame: "Num",
}

// P9.1: a field that a node does not have; empty lists in a Term are none (R6).
func TestFieldsThatMayNotBe(t *testing.T) {
	turns := map[string][]func(c *api.Core){
		"Text": {func(c *api.Core) { c.Text = "a" }, func(c *api.Core) { c.Text = "\x00" }, func(c *api.Core) { c.Text = "hd" }},
		"Num":  {func(c *api.Core) { c.Num = 1 }, func(c *api.Core) { c.Num = -1 }, func(c *api.Core) { c.Num = 1 << 32 }, func(c *api.Core) { c.Num = math.MinInt }},
		"Term": {
			func(c *api.Core) { c.Term = atom("a") }, func(c *api.Core) { c.Term = integer() }, func(c *api.Core) { c.Term.Kind = 255 },
			func(c *api.Core) { c.Term.Neg = true }, func(c *api.Core) { c.Term.Limbs = []uint32{0} }, func(c *api.Core) { c.Term.Text = "a" },
			func(c *api.Core) { c.Term.Num = -1 }, func(c *api.Core) { c.Term.Items = make([]api.Term, 1) }, func(c *api.Core) { c.Term.Tail = make([]api.Term, 1) },
		},
	}
	turned := 0
	for i, s := range samples() {
		for _, role := range s.roles {
			for field, all := range turns {
				if fields[s.node.Kind] == field {
					continue
				}
				for k, turn := range all {
					c := s.node
					turn(&c)
					for _, body := range standing[role] {
						turned++
						if got := checkBody(body(c)); got != api.ErrShape {
							t.Errorf("%d, %s as %c, %s, %d: %v", i, sound.Show(s.node), role, field, k, got)
						}
					}
				}
			}
			c := s.node
			c.Kids = append([]api.Core{}, c.Kids...)
			if fields[c.Kind] != "Term" {
				c.Term.Limbs, c.Term.Items, c.Term.Tail = []uint32{}, []api.Term{}, []api.Term{}
			}
			if got := checkBody(standing[role][0](c)); got != api.OK {
				t.Errorf("%d, %s as %c, with empty lists: %v", i, sound.Show(s.node), role, got)
			}
		}
	}
	if turned < 1000 {
		t.Error(turned)
	}
}

// P9.1: a constant's Term.
func TestTermsOfConstants(t *testing.T) {
	list := func(tail []api.Term, items ...api.Term) api.Term {
		return api.Term{Kind: api.List, Items: items, Tail: tail}
	}
	row := func(n int) []api.Term { return make([]api.Term, n) }
	for i, c := range []struct {
		term  api.Term
		right bool
	}{
		{integer(), true}, {api.Term{Kind: api.Int, Neg: true, Limbs: []uint32{7}}, true}, {atom(strings.Repeat("a", 40)), true}, {api.Term{Kind: api.Ref, Num: 1 << 40}, true},
		{api.Term{Kind: api.Fun, Num: 16384, Items: []api.Term{integer()}}, true}, {api.Term{Kind: api.Pid, Num: 3}, true}, {api.Term{Kind: api.Tuple}, true}, {list(nil), true}, {list([]api.Term{atom("b")}, integer()), true},
		{api.Term{Kind: api.Tuple, Items: repeatedTerm(atom("a"), 4095)}, true},
		{api.Term{Kind: api.Tuple, Items: repeatedTerm(atom("a"), 4096)}, false},
		{api.Term{}, false}, {api.Term{Kind: 8}, false}, {api.Term{Text: "a"}, false}, {integer(0), false}, {api.Term{Kind: api.Int, Neg: true}, false}, {atom(strings.Repeat("a", 41)), false},
		{api.Term{Kind: api.Ref, Num: -1}, false}, {api.Term{Kind: api.Fun, Num: 16385}, false}, {api.Term{Kind: api.Pid, Num: 1<<40 + 1}, false}, {api.Term{Kind: api.Tuple, Items: row(1)}, false},
		{list([]api.Term{atom("b")}), false}, {list([]api.Term{list(nil)}, integer()), false}, {list(row(2), integer()), false}, {api.Term{Kind: api.Atom, Num: 1}, false},
	} {
		want := api.ErrShape
		if c.right {
			want = api.OK
		}
		constant := holding(api.CoreConst, c.term)
		pattern := holding(api.PatConst, c.term)
		for k, got := range []api.Errno{
			checkBody(constant), checkBody(choose(a, guarded(wildcard, a, constant))), checkBody(choose(a, clause(pattern, a))), checkBody(choose(a, clause(pats(wildcard, pattern), a))),
		} {
			if got != want {
				t.Errorf("%d, %d: %v, not %v", i, k, got, want)
			}
		}
	}
}

func repeatedTerm(t api.Term, times int) []api.Term {
	out := make([]api.Term, times)
	for i := range out {
		out[i] = t
	}
	return out
}

// P9.1: a Kid too many or too few: each Kind with none to six right Kids.
func TestHowManyKids(t *testing.T) {
	row := func(first, kid api.Core) func(n int) []api.Core {
		return func(n int) []api.Core {
			out := repeated(kid, n)
			if n > 0 {
				out[0] = first
			}
			return out
		}
	}
	expressions, clauses, patterns := row(a, a), row(a, otherwise), row(wildcard, wildcard)
	for i, c := range []struct {
		role  rune
		node  api.Core
		kids  func(n int) []api.Core
		right string
	}{
		{'e', a, expressions, "0"}, {'e', x(0), expressions, "0"}, {'e', tuple(), expressions, "0123456"}, {'e', of(api.CoreCons), expressions, "2"}, {'e', numbered(api.CoreLet, 3), expressions, "2"},
		{'e', call(2), expressions, "0"}, {'e', call(0), expressions, "2"}, {'e', of(api.CoreApply), expressions, "123456"}, {'e', bif("self"), expressions, "0"}, {'e', bif("exit"), expressions, "12"}, {'e', bif("setelement"), expressions, "3"}, {'e', bif("-"), expressions, "12"},
		{'e', fun(0), row(x(0), x(1)), "0"}, {'e', fun(1), row(x(0), x(1)), "1"}, {'e', fun(3), row(x(0), x(1)), "3"},
		{'e', of(api.CoreCase), clauses, "23456"}, {'e', of(api.CoreTry), clauses, "23456"}, {'e', said(api.CoreFail, "b"), expressions, "01"},
		{'e', of(api.CoreReceive), row(otherwise, otherwise), "123456"},
		{'e', numbered(api.CoreReceive, 1), func(n int) []api.Core { return append(repeated(otherwise, max(n-2, 0)), repeated(a, min(n, 2))...) }, "23456"},
		{'k', x(0), expressions, "0"},
		{'c', of(api.CoreClause), func(n int) []api.Core { return append([]api.Core{wildcard, some()}, repeated(a, 4)...)[:n] }, "3"},
		{'p', wildcard, patterns, "0"}, {'p', bind(3), patterns, "0"}, {'p', same(0), patterns, "0"}, {'p', holding(api.PatConst, atom("a")), patterns, "0"}, {'p', pats(), patterns, "0123456"}, {'p', of(api.PatCons), patterns, "2"}, {'p', of(api.PatBoth), patterns, "2"},
		{'g', some(), row(all(), all(a)), "0123456"}, {'l', all(), expressions, "0123456"},
		{'t', a, expressions, "0"}, {'t', x(0), expressions, "0"}, {'t', tuple(), expressions, "0123456"}, {'t', of(api.CoreCons), expressions, "2"}, {'t', bif("hd"), expressions, "1"}, {'t', bif("-"), expressions, "12"}, {'t', all(), expressions, "2"}, {'t', some(), expressions, "2"},
	} {
		for n := range 7 {
			c.node.Kids = c.kids(n)
			want := api.ErrShape
			if strings.Contains(c.right, fmt.Sprint(n)) {
				want = api.OK
			}
			if got := checkBody(standing[c.role][0](c.node)); got != want {
				t.Errorf("%d, %s: %v, not %v", i, sound.Show(c.node), got, want)
			}
		}
	}
}

// P9.1: what a receive's Num says of its Kids.
func TestReceives(t *testing.T) {
	for i, c := range []struct {
		num   int
		kids  []api.Core
		right bool
	}{
		{0, []api.Core{otherwise, otherwise}, true}, {0, []api.Core{otherwise, a, a}, false}, {0, []api.Core{a}, false}, {0, []api.Core{a, a}, false}, {0, nil, false},
		{1, []api.Core{a, a}, true}, {1, []api.Core{otherwise, a, a}, true}, {1, []api.Core{otherwise, a}, false}, {1, []api.Core{otherwise, otherwise}, false}, {1, []api.Core{a, otherwise, a}, false}, {1, []api.Core{otherwise, a, a, a}, false}, {1, []api.Core{a, a, otherwise}, false}, {1, []api.Core{a, otherwise}, false}, {1, []api.Core{a}, false}, {1, nil, false},
		{2, []api.Core{otherwise, a, a}, false}, {2, []api.Core{a, a, a, a}, false}, {-1, []api.Core{otherwise}, false}, {-1, []api.Core{a, a}, false}, {257, []api.Core{a, a}, false},
		{1, []api.Core{clause(bind(2), x(2)), x(0), x(1)}, true}, {1, []api.Core{clause(bind(2), x(2)), x(2), x(1)}, false}, {1, []api.Core{clause(bind(2), x(2)), x(0), x(2)}, false}, {1, []api.Core{let(2, a, x(2)), x(2)}, false}, {1, []api.Core{let(2, a, x(2)), let(2, a, x(2))}, true},
	} {
		want := api.ErrShape
		if c.right {
			want = api.OK
		}
		if got := checkBody(numbered(api.CoreReceive, c.num, c.kids...)); got != want {
			t.Errorf("%d: %v, not %v", i, got, want)
		}
	}
}

// P9.1: what is built in, as expressions and in guards.
func TestWhatIsBuiltIn(t *testing.T) {
	for text, roles := range map[string]string{
		"self/0": "e", "self/1": "", "make_ref/0": "e", "now/0": "e", "print/1": "e", "!/2": "e", "!/1": "", "spawn/1": "e", "exit/1": "e", "exit/2": "e", "exit/3": "", "exit/0": "",
		"+/2": "et", "+/1": "et", "+/0": "", "+/3": "", "not/1": "et", "not/2": "", "abs/1": "et", "element/2": "et", "element/1": "", "is_function/1": "et", "is_function/2": "et", "is_function/3": "", "xor/2": "et", "=:=/2": "et",
		"++/2": "e", "max/2": "e", "setelement/3": "e", "sort/1": "e", "throw/1": "e", "error/1": "e",
		"/0": "", "/1": "", "andalso/2": "", "orelse/2": "", "f/2": "", "HD/1": "", "hd /1": "", "hd/12": "",
	} {
		var kids int
		name := text[:strings.LastIndex(text, "/")]
		fmt.Sscan(text[len(name)+1:], &kids)
		for _, role := range "et" {
			want := api.ErrShape
			if strings.ContainsRune(roles, role) {
				want = api.OK
			}
			for _, body := range standing[role] {
				if got := checkBody(body(bif(name, repeated(x(0), kids)...))); got != want {
					t.Errorf("%s as %c: %v, not %v", text, role, got, want)
				}
			}
		}
	}
}

// P9.1: the error that a CoreFail tells.
func TestFails(t *testing.T) {
	for text, want := range map[string]api.Errno{
		"": api.OK, "a b": api.OK, "\x00\xff": api.OK, strings.Repeat("a", 40): api.OK, strings.Repeat("é", 20): api.OK,
		strings.Repeat("a", 41): api.ErrShape, strings.Repeat("é", 20) + "a": api.ErrShape, strings.Repeat("a", 1<<20): api.ErrShape,
	} {
		for k, got := range []api.Errno{checkBody(said(api.CoreFail, text)), checkBody(said(api.CoreFail, text, a)), checkBody(let(2, a, said(api.CoreFail, text, x(2))))} {
			if got != want {
				t.Errorf("%d bytes, %d: %v, not %v", len(text), k, got, want)
			}
		}
	}
}

// P9.1: calls and funs of the five functions of about, and of such as are not there.
func TestCallsAndFuns(t *testing.T) {
	for i, c := range []struct {
		node  api.Core
		right bool
	}{
		{call(0, a, a), true}, {call(0, a), false}, {call(0, a, a, a), false}, {call(0), false}, {call(0, let(2, a, x(2)), x(1)), true}, {call(0, x(2), a), false},
		{call(1, a, a), false}, {call(1, a), false}, {call(1, x(0)), false}, {call(1), false}, {call(2), true}, {call(2, a), false}, {call(3, a, a, a), false}, {call(3), false},
		{call(4, repeated(a, 12)...), true}, {call(4, repeated(a, 11)...), false}, {call(4, repeated(a, 13)...), false},
		{call(5), false}, {call(-1), false}, {call(5, a, a), false}, {call(-5, a, a), false}, {call(1 << 32), false}, {call(math.MaxInt), false}, {call(math.MinInt), false},
		{fun(0), true}, {fun(0, x(0)), false}, {fun(0, x(0), x(1)), false}, {fun(1, x(0)), true}, {fun(1, x(1)), true}, {fun(1), false}, {fun(1, x(0), x(1)), false}, {fun(1, x(2)), false}, {fun(1, a), false}, {fun(1, tuple(x(0))), false}, {fun(1, same(0)), false}, {fun(1, bind(2)), false}, {fun(1, x(-1)), false}, {fun(1, x(6)), false},
		{fun(2), true}, {fun(3, x(0), x(0), x(1)), true}, {fun(3, x(0), x(0)), false}, {fun(3), false}, {fun(3, x(0), x(0), x(0), x(0)), false}, {fun(3, x(0), a, x(0)), false}, {fun(3, x(0), x(0), x(5)), false}, {let(5, a, fun(3, x(0), x(5), x(0))), true}, {fun(4), true}, {fun(4, x(0)), false},
		{fun(5), false}, {fun(-1), false}, {fun(5, x(0)), false}, {fun(1<<32 + 2), false}, {fun(math.MaxInt), false}, {fun(math.MinInt), false},
		{fun(1, api.Core{Kind: api.CoreVar, Text: "x"}), false}, {fun(1, api.Core{Kind: api.CoreVar, Term: atom("a")}), false}, {fun(1, numbered(api.CoreVar, 0, a)), false},
	} {
		want := api.ErrShape
		if c.right {
			want = api.OK
		}
		for k, got := range []api.Errno{checkBody(c.node), checkBody(choose(a, clause(bind(4), tuple(c.node))))} {
			if got != want {
				t.Errorf("%d, %d, %s: %v, not %v", i, k, sound.Show(c.node), got, want)
			}
		}
	}
	for kind, right := range map[api.CoreKind][2]bool{api.CoreCall: {true, false}, api.CoreFun: {true, true}} { // in the last function, of the first one
		for i, first := range []api.Func{{Body: a}, {Arity: 0, Body: a}} {
			first.Extra, first.Arity, first.Vars = i, i, i
			p := api.Program{Funcs: []api.Func{first, {Arity: 1, Vars: 1, Body: numbered(kind, 0, repeated(x(0), i)...)}}}
			if got := sound.Check(p); (got == api.OK) != right[i] || got != api.OK && got != api.ErrShape {
				t.Errorf("%d, %d: %v", kind, i, got)
			}
		}
	}
}

// P9.1: names, and how many of each there are, at their ends and one past each.
func TestNumbersOfFunctions(t *testing.T) {
	for i, c := range []struct {
		f     api.Func
		right bool
	}{
		{api.Func{}, true}, {api.Func{Name: strings.Repeat("a", 40)}, true}, {api.Func{Name: strings.Repeat("a", 41)}, false}, {api.Func{Name: strings.Repeat("\xff", 40)}, true}, {api.Func{Name: strings.Repeat("é", 20) + "a"}, false}, {api.Func{Name: "\x00 'A"}, true},
		{api.Func{Arity: 12, Vars: 12}, true}, {api.Func{Arity: 13, Vars: 13}, false}, {api.Func{Arity: 12, Vars: 11}, false}, {api.Func{Arity: 12, Vars: 100}, true}, {api.Func{Arity: 13, Vars: 100}, false}, {api.Func{Arity: 100, Vars: 100}, false},
		{api.Func{Arity: 12, Extra: 12, Vars: 12}, true}, {api.Func{Arity: 12, Extra: 13, Vars: 13}, false}, {api.Func{Arity: 13, Extra: 13, Vars: 13}, false}, {api.Func{Arity: 1, Extra: 2, Vars: 2}, false}, {api.Func{Arity: 2, Extra: 2, Vars: 2}, true}, {api.Func{Arity: 2, Extra: -1, Vars: 2}, false}, {api.Func{Extra: 1, Vars: 1}, false},
		{api.Func{Vars: 100}, true}, {api.Func{Vars: 101}, false}, {api.Func{Vars: -1}, false}, {api.Func{Arity: 1, Vars: 1}, true}, {api.Func{Arity: 1}, false}, {api.Func{Arity: 5, Vars: 4}, false}, {api.Func{Arity: 5, Vars: 5}, true},
		{api.Func{Arity: -1}, false}, {api.Func{Arity: -1, Extra: -1}, false}, {api.Func{Arity: -1, Extra: -1, Vars: -1}, false}, {api.Func{Arity: -1, Extra: -2}, false}, {api.Func{Arity: math.MinInt, Extra: math.MinInt, Vars: math.MinInt}, false}, {api.Func{Arity: math.MaxInt, Vars: math.MaxInt}, false}, {api.Func{Vars: 1 << 32}, false}, {api.Func{Extra: math.MinInt}, false},
	} {
		want := api.ErrShape
		if c.right {
			want = api.OK
		}
		c.f.Body = a
		right := api.Func{Name: "g", Arity: 1, Vars: 1, Body: x(0)}
		for _, funcs := range [][]api.Func{{c.f}, {right, c.f}, {c.f, right, c.f}} {
			if got := sound.Check(api.Program{Funcs: funcs}); got != want {
				t.Errorf("%d of %d: %v, not %v", i, len(funcs), got, want)
			}
		}
	}
}

// P9.1: ErrMany ahead of ErrShape.
func TestManyFunctions(t *testing.T) {
	for _, n := range []int{0, 1, 2, 16383, 16384} {
		funcs := make([]api.Func, n)
		for i := range funcs {
			funcs[i] = api.Func{Name: "f", Body: call(n - 1 - i)}
		}
		if got := sound.Check(api.Program{Funcs: funcs}); got != api.OK {
			t.Errorf("%d: %v", n, got)
		}
		for _, at := range []int{0, n / 2, n - 1} {
			if n == 0 {
				continue
			}
			funcs[at].Body = call(n)
			if got := sound.Check(api.Program{Funcs: funcs}); got != api.ErrShape {
				t.Errorf("%d, wrong at %d: %v", n, at, got)
			}
			funcs[at].Body = a
		}
	}
	for _, n := range []int{16385, 16386, 40000} {
		funcs := make([]api.Func, n)
		if got := sound.Check(api.Program{Funcs: funcs}); got != api.ErrMany {
			t.Errorf("%d wrong ones: %v", n, got)
		}
		for i := range funcs {
			funcs[i].Body = a
		}
		if got := sound.Check(api.Program{Funcs: funcs}); got != api.ErrMany {
			t.Errorf("%d: %v", n, got)
		}
	}
	if got := sound.Check(api.Program{Funcs: []api.Func{}}); got != api.OK { // R6
		t.Error(got)
	}
}
