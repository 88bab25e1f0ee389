package show_test

import (
	"strings"
	"testing"

	"pigeonhole/api"
	"pigeonhole/node"
	"pigeonhole/parse"
)

// Signs and words that stand between two items, and ahead of one.
const (
	signsBetween = "= ! orelse andalso == /= =:= =/= < =< > >= ++ -- + - or xor * div rem and"
	signsAhead   = "- + not"
)

// joined is two items with an operator between, or a =.
func joined(sign string, left, right api.Node) api.Node {
	if sign == "=" {
		return match(left, right)
	}
	return op(sign, left, right)
}

// fewest asks that n is shown without brackets, if it is parsed again without them; else with brackets.
// It says whether there are any.
func fewest(t *testing.T, n api.Node, without, with string) bool {
	t.Helper()
	if back, fault := parse.Expr(without); fault == (api.Fault{}) && node.Same(back, n) {
		is(t, n, without)
		return false
	}
	is(t, n, with)
	return true
}

// P6.1: each two operators, one within the other on either side.
func TestTwoOperators(t *testing.T) {
	onLeft, onRight := 0, 0
	for _, outer := range strings.Fields(signsBetween) {
		is(t, joined(outer, a, b), "a "+outer+" b")
		for _, inner := range strings.Fields(signsBetween) {
			if fewest(t, joined(outer, joined(inner, a, b), c), "a "+inner+" b "+outer+" c", "(a "+inner+" b) "+outer+" c") {
				onLeft++
			}
			if fewest(t, joined(outer, a, joined(inner, b, c)), "a "+outer+" b "+inner+" c", "a "+outer+" (b "+inner+" c)") {
				onRight++
			}
		}
	}
	// By how many there are of each strength: 1 1 1 1 8 2 4 4.
	const alike, less = 1 + 1 + 1 + 1 + 64 + 4 + 16 + 16, (22*22 - 104) / 2
	if leftAlike := 1 + 1 + 64 + 4; onLeft != less+leftAlike {
		t.Errorf("%d brackets on the left, not %d", onLeft, less+leftAlike)
	}
	if rightAlike := alike - 1 - 1 - 4; onRight != less+rightAlike {
		t.Errorf("%d brackets on the right, not %d", onRight, less+rightAlike)
	}
}

// P6.1: three operators in a row, one of each strength, put together in all ways.
func TestThreeOperators(t *testing.T) {
	signs := strings.Fields("= ! orelse andalso =:= -- - rem")
	for _, p := range signs {
		for _, q := range signs {
			for _, r := range signs {
				bare := "a " + p + " b " + q + " c " + r + " d"
				back, fault := parse.Expr(bare)
				for _, n := range []api.Node{
					joined(p, a, joined(q, b, joined(r, c, d))), joined(p, a, joined(r, joined(q, b, c), d)), joined(q, joined(p, a, b), joined(r, c, d)),
					joined(r, joined(p, a, joined(q, b, c)), d), joined(r, joined(q, joined(p, a, b), c), d),
				} {
					s := shown(t, n)
					again(t, n, s)
					if strings.NewReplacer("(", "", ")", "").Replace(s) != bare {
						t.Errorf("%s, of %s", s, bare)
					}
					if same := fault == (api.Fault{}) && node.Same(back, n); same != (s == bare) {
						t.Errorf("%s, of %s: %t", s, bare, same)
					}
				}
			}
		}
	}
}

// P6.1: operators that go from the right, and comparisons, which go neither way.
func TestRightAndNeither(t *testing.T) {
	is(t, op("!", a, op("!", b, op("!", c, d))), "a ! b ! c ! d")
	is(t, op("!", op("!", op("!", a, b), c), d), "((a ! b) ! c) ! d")
	is(t, op("--", a, op("++", b, op("--", c, d))), "a -- b ++ c -- d")
	is(t, op("++", op("--", a, b), op("--", c, d)), "(a -- b) ++ c -- d")
	is(t, match(a, match(b, match(c, d))), "a = b = c = d")
	is(t, match(match(a, b), match(c, d)), "(a = b) = c = d")
	is(t, match(op("!", a, b), op("!", c, d)), "a ! b = c ! d")
	is(t, op("!", match(a, b), match(c, d)), "(a = b) ! (c = d)")
	is(t, op("==", op("==", a, b), op("==", c, d)), "(a == b) == (c == d)")
	is(t, op("<", op("=<", op(">", a, b), c), d), "((a > b) =< c) < d")
	is(t, op(">=", a, op("=/=", b, op("=:=", c, d))), "a >= (b =/= (c =:= d))")
	is(t, op("+", op("-", op("or", op("xor", a, b), c), d), e), "a xor b or c - d + e")
	is(t, op("+", a, op("-", b, op("xor", c, d))), "a + (b - (c xor d))")
	is(t, op("and", op("rem", op("div", op("*", a, b), c), d), e), "a * b div c rem d and e")
	is(t, op("*", op("-", a, b), op("*", c, d)), "(a - b) * (c * d)")
	is(t, op("orelse", op("andalso", a, b), op("andalso", c, d)), "a andalso b orelse c andalso d")
	is(t, op("andalso", op("orelse", a, b), op("orelse", c, d)), "(a orelse b) andalso (c orelse d)")
	is(t, op("orelse", op("orelse", a, b), op("orelse", c, d)), "a orelse b orelse (c orelse d)")
	is(t, op("andalso", op("andalso", a, b), op("andalso", c, d)), "a andalso b andalso (c andalso d)")
}

// P6.1: operators of one ahead of each other, ahead of what begins with one, and within others.
func TestSignsAhead(t *testing.T) {
	for _, n := range []texted{
		{op("-", a), "-a"}, {op("+", a), "+a"}, {op("not", a), "not a"},
		{op("-", op("-", a)), "- -a"}, {op("-", op("+", a)), "- +a"}, {op("+", op("-", a)), "+ -a"}, {op("+", op("+", a)), "+ +a"},
		{op("-", op("not", a)), "-not a"}, {op("+", op("not", a)), "+not a"}, {op("not", op("-", a)), "not -a"}, {op("not", op("+", a)), "not +a"}, {op("not", op("not", a)), "not not a"},
		{op("-", op("-", op("+", op("+", op("not", op("-", one)))))), "- - + +not -1"},
		{op("-", one), "-1"}, {op("-", text("-")), `-"-"`}, {op("-", atom("-")), "-'-'"}, {op("+", atom("+")), "+'+'"}, {op("-", tuple(op("-", a))), "-{-a}"}, {op("+", list(op("+", a))), "+[+a]"},
		{op("-", call(a, b)), "-a(b)"}, {call(op("-", a), b), "(-a)(b)"}, {op("-", call(op("-", a), b)), "-(-a)(b)"}, {op("+", call(op("-", a))), "+(-a)()"}, {call(op("-", op("-", a))), "(- -a)()"}, {call(op("not", a)), "(not a)()"},
		{op("-", op("-", a, b)), "-(a - b)"}, {op("-", op("-", op("-", a), b)), "-(-a - b)"}, {op("+", op("+", op("+", a), b)), "+(+a + b)"}, {op("not", op("-", op("-", a), b)), "not (-a - b)"},
		{op("not", op("and", a, b)), "not (a and b)"}, {op("not", match(a, b)), "not (a = b)"}, {op("-", match(op("-", a), b)), "-(-a = b)"}, {op("+", block(op("+", a))), "+begin +a end"}, {op("-", named("-", 1)), "-fun '-'/1"},
		{op("-", a, op("-", b)), "a - -b"}, {op("-", op("-", a), b), "-a - b"}, {op("--", op("-", a), op("-", b)), "-a -- -b"}, {op("++", op("+", a), op("+", b)), "+a ++ +b"}, {op("+", op("+", a), op("+", b)), "+a + +b"},
		{op("<", a, op("-", b)), "a < -b"}, {op("=<", op("not", a), op("not", b)), "not a =< not b"}, {op("and", op("not", a), op("not", b)), "not a and not b"}, {op("*", op("-", a), op("-", b)), "-a * -b"}, {match(op("-", a), op("+", b)), "-a = +b"},
		{comp(op("-", x), gen(op("-", one), op("-", a)), op("not", b)), "[-X || -1 <- -a, not b]"},
	} {
		is(t, n.n, n.s)
	}
	for _, sign := range strings.Fields(signsAhead) {
		for _, inner := range strings.Fields(signsBetween) {
			blank := strings.Repeat(" ", strings.Count(sign, "not"))
			is(t, op(sign, joined(inner, a, b)), sign+blank+"(a "+inner+" b)")
			is(t, joined(inner, op(sign, a), op(sign, b)), sign+blank+"a "+inner+" "+sign+blank+"b")
		}
	}
}

// P6.1: calls of what is no call, and of calls.
func TestCalls(t *testing.T) {
	is(t, call(call(call(a, b)), c, d), "a(b)()(c, d)")
	is(t, call(tuple(a), b), "{a}(b)")
	is(t, call(one, x), "1(X)")
	is(t, call(text("t")), `"t"()`)
	is(t, call(named("f", 2), a, b), "fun f/2(a, b)")
	is(t, call(fun(clause(row(x), nil, row(call(x)))), fun(clause(nil, nil, row(b)))), "fun (X) -> X() end(fun () -> b end)")
	is(t, call(block(a, b), c), "begin a, b end(c)")
	is(t, call(call(match(a, b)), match(c, d)), "(a = b)()(c = d)")
	for _, sign := range strings.Fields(signsBetween) {
		is(t, call(joined(sign, a, b), joined(sign, c, d)), "(a "+sign+" b)(c "+sign+" d)")
		is(t, joined(sign, call(a), call(b)), "a() "+sign+" b()")
	}
}
