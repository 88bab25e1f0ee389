package node_test

import (
	"math"
	"reflect"
	"strings"
	"testing"

	"pigeonhole/api"
	"pigeonhole/node"
)

func of(kind api.NodeKind, kids ...api.Node) api.Node {
	return api.Node{Kind: kind, Kids: kids}
}

func said(kind api.NodeKind, text string, kids ...api.Node) api.Node {
	return api.Node{Kind: kind, Text: text, Kids: kids}
}

// numbered is n with that Num.
func numbered(num int, n api.Node) api.Node {
	n.Num = num
	return n
}

func num(text string) api.Node { return said(api.NodeInt, text) }

func atom(text string) api.Node { return said(api.NodeAtom, text) }

func variable(text string) api.Node { return said(api.NodeVar, text) }

func text(text string) api.Node { return said(api.NodeText, text) }

func op(text string, items ...api.Node) api.Node { return said(api.NodeOp, text, items...) }

func tuple(items ...api.Node) api.Node { return of(api.NodeTuple, items...) }

func list(items ...api.Node) api.Node { return of(api.NodeList, items...) }

func tailed(items ...api.Node) api.Node { return numbered(1, list(items...)) }

func match(items ...api.Node) api.Node { return of(api.NodeMatch, items...) }

func call(items ...api.Node) api.Node { return of(api.NodeCall, items...) }

func named(text string, arity int) api.Node { return numbered(arity, said(api.NodeName, text)) }

func block(items ...api.Node) api.Node { return of(api.NodeBlock, items...) }

func when(patterns, guards api.Node, items ...api.Node) api.Node {
	return of(api.NodeClause, patterns, guards, block(items...))
}

// arm is a clause of these patterns, without guards, that tells 1.
func arm(patterns ...api.Node) api.Node { return when(block(patterns...), block(), num("1")) }

// guarded is a clause of these patterns, with one guard, that tells 1.
func guarded(patterns ...api.Node) api.Node {
	return when(block(patterns...), block(block(variable("X"))), num("1"))
}

func fun(clauses ...api.Node) api.Node { return of(api.NodeFun, clauses...) }

func choose(kids ...api.Node) api.Node { return of(api.NodeCase, kids...) }

func iffy(clauses ...api.Node) api.Node { return of(api.NodeIf, clauses...) }

func receive(clauses ...api.Node) api.Node { return of(api.NodeReceive, clauses...) }

func timed(kids ...api.Node) api.Node { return numbered(1, receive(kids...)) }

func after(kids ...api.Node) api.Node { return of(api.NodeAfter, kids...) }

func try(kids ...api.Node) api.Node { return of(api.NodeTry, kids...) }

func comp(kids ...api.Node) api.Node { return of(api.NodeComp, kids...) }

func gen(kids ...api.Node) api.Node { return of(api.NodeGen, kids...) }

// function has the Num that its first clause asks for.
func function(name string, clauses ...api.Node) api.Node {
	return numbered(len(clauses[0].Kids[0].Kids), said(api.NodeFunction, name, clauses...))
}

func module(functions ...api.Node) api.Node { return of(api.NodeModule, functions...) }

// nested is n in so many tuples, one in another.
func nested(n api.Node, times int) api.Node {
	for range times {
		n = tuple(n)
	}
	return n
}

func repeated(n api.Node, times int) []api.Node {
	var out []api.Node
	for range times {
		out = append(out, n)
	}
	return out
}

var (
	one    = num("1")
	f      = atom("f")
	x      = variable("X")
	late   = after(one, block(f))
	caught = arm(tuple(atom("error"), x))
)

// rightTrees are ordinary ones, each kind of the table among them.
func rightTrees() []api.Node {
	return []api.Node{
		one, num("0"), num("007"), num("18446744073709551616"), f, atom(""), atom("a b\x00\xff"), atom("if"),
		x, variable("_"), variable("Xyz_@09"), variable("_@"), variable("__"), text(""), text("a\x00\xff\""),
		tuple(), tuple(one), tuple(one, x, tuple()), list(), list(one), list(one, x, f), tailed(one, x), tailed(one, x, list()),
		op("-", x), op("+", one), op("not", f), op("-", op("-", x)), op("=:=", x, one), op("!", x, op("!", f, one)),
		match(x, one), match(x, match(variable("Y"), one)), call(f), call(f, x), call(f, x, one, f), call(call(f, x), variable("Y")), call(x), call(fun(arm())),
		fun(arm()), fun(arm(x, one)), fun(arm(x), arm(), guarded(one, x)), named("f", 0), named("", 2), named("a b", 255),
		choose(x, arm(one)), choose(call(f), arm(one), guarded(x), when(block(f), block(block(x, one), block(f)), one, x)),
		iffy(guarded()), iffy(guarded(), when(block(), block(block(f), block(x, f)), one, x)),
		receive(arm(x)), receive(arm(x), guarded(one)), timed(late), timed(arm(x), late), timed(arm(one), guarded(x), after(x, block(one, f))),
		try(block(x), caught), try(block(call(f), x), caught, guarded(tuple(variable("_"), tuple(x))), arm(tuple(x, call(f)))),
		comp(x, one), comp(x, gen(x, one)), comp(tuple(x), gen(tuple(x, variable("_")), call(f)), op(">", x, one), gen(x, list()), f),
		block(one), block(match(x, one), x), block(block(one)),
		module(), module(function("f", arm())), module(function("f", arm(x, one), arm(), guarded(x)), function("", guarded(x))),
		module(function("f", when(block(x), block(block(op(">", x, one)), block(op("==", x, f))), x), arm(variable("_"))),
			function("g", when(block(), block(), choose(x, arm(fun(arm(x)))), timed(arm(x), late), try(block(x), caught), comp(x, gen(x, x))))),
	}
}

// wrongTrees are not right, for one reason each.
func wrongTrees() []api.Node {
	return []api.Node{
		{}, of(23), of(255), said(23, "a"), num(""), num("1a"), num("-1"), num(" 1"), num("1 "), num("/"), num(":"), num("\xb2"),
		variable(""), variable("x"), variable("@"), variable("1X"), variable("X-"), variable("X y"), variable("X\xe9"), variable("X["), variable("X`"), variable("X{"), variable("["), variable("X/"), variable("X:"),
		tailed(), tailed(one), numbered(2, list(one, x)), numbered(-1, list(one, x)), numbered(2, list(one, x, f)),
		op("-"), op("!", x), op("++", x), op("*", x), op("and", x), op("", x), op("not", x, x), op("/", x, x), op("", x, x), op("=", x, x), op("Not", x), op("- ", x), op("-", x, x, x), op("not"), op("<=", x, x),
		match(), match(x), match(x, x, x), call(), fun(), fun(x), fun(block(x)), choose(), choose(x), choose(arm(x)), choose(x, arm()), choose(x, arm(x, x)), choose(x, arm(x), arm()), choose(x, x), choose(x, arm(x), late), choose(block(), arm(x)),
		named("f", -1), named("f", 256), iffy(), iffy(arm()), iffy(guarded(x)), iffy(guarded(), arm()), iffy(guarded(), guarded(x)), iffy(x), iffy(x, guarded()),
		receive(), timed(), receive(arm()), receive(arm(x, x)), receive(late), receive(arm(x), late), timed(arm(x)), timed(late, arm(x)), timed(late, late), timed(arm(x), late, late), timed(arm(x), late, arm(x)), numbered(2, receive(arm(x), late)), numbered(2, receive(late, late)), numbered(-1, receive(arm(x))), timed(arm(), late), timed(x, late), timed(after()), timed(after(one)), timed(after(one, x)), timed(after(one, block())), timed(after(one, block(x), block(x))), timed(after(block(), block(x))), timed(after(arm(x), block(x))),
		try(), try(block(x)), try(block(), caught), try(x, caught), try(tuple(x), caught), try(caught), try(block(x), arm(x)), try(block(x), arm()), try(block(x), arm(tuple(f, x), x)), try(block(x), arm(tuple(f))), try(block(x), arm(tuple())), try(block(x), arm(tuple(f, x, x))), try(block(x), arm(list(f, x))), try(block(x), arm(tuple(one, x))), try(block(x), arm(tuple(text("f"), x))), try(block(x), arm(tuple(tuple(), x))), try(block(x), arm(tuple(f, gen(x, x)))), try(block(x), caught, arm(x)), try(block(x), block(x), caught), try(block(x), caught, late), try(block(x), arm(tuple(atom(strings.Repeat("a", 41)), x))), try(block(x), arm(tuple(variable("y"), x))),
		comp(), comp(x), comp(gen(x, x), x), comp(x, gen(x)), comp(x, gen()), comp(x, gen(x, x, x)), comp(x, gen(x, gen(x, x))), comp(x, block()), comp(x, arm(x)), comp(x, x, gen(x)),
		block(), block(block()), block(arm(x)), block(gen(x, x)), arm(), arm(x), guarded(), gen(x, x), late, function("f", arm()), function("f", arm(x)),
		tuple(arm()), tuple(gen(x, x)), tuple(late), tuple(module()), list(function("f", arm())), tuple(block()), call(block()), call(f, block()), match(x, gen(x, x)), op("-", module()),
		fun(of(api.NodeClause)), fun(of(api.NodeClause, block(), block())), fun(of(api.NodeClause, block(), block(), block())), fun(of(api.NodeClause, block(), block(), x)), fun(of(api.NodeClause, tuple(), block(), block(x))), fun(of(api.NodeClause, block(), tuple(), block(x))), fun(of(api.NodeClause, block(), block(), block(x), block(x))),
		fun(when(block(), block(x), x)), fun(when(block(), block(block()), x)), fun(when(block(), block(block(x), block()), x)), fun(when(block(), block(block(x), x), x)), fun(when(block(), block(tuple(x)), x)), fun(when(block(arm()), block(), x)), fun(when(block(block()), block(), x)), fun(when(block(), block(), block())),
		module(x), module(arm()), module(module()), module(numbered(1, function("f", arm()))), module(numbered(0, function("f", arm(x)))), module(numbered(1, function("f", arm(), arm(x)))), module(numbered(-1, function("f", arm()))), module(said(api.NodeFunction, "f")), module(said(api.NodeFunction, "f", x)), module(said(api.NodeFunction, "f", of(api.NodeClause))), module(function("f", arm()), x), module(function(strings.Repeat("a", 41), arm())), module(said(api.NodeFunction, "f", block(block(), block(), block(x)))),
	}
}

// P4.1
func TestRightTrees(t *testing.T) {
	kinds := map[api.NodeKind]int{}
	for i, n := range rightTrees() {
		if !node.Right(n) {
			t.Errorf("%d: %v", i, n)
		}
		eachNode(&n, func(n *api.Node) { kinds[n.Kind]++ })
	}
	if len(kinds) != 22 {
		t.Errorf("%d kinds are asked for", len(kinds))
	}
	for i, n := range wrongTrees() {
		if node.Right(n) {
			t.Errorf("%d: %v", i, n)
		}
	}
}

// P4.1
func TestOperators(t *testing.T) {
	ahead := strings.Fields("- + not")
	between := strings.Fields("! orelse andalso == /= =:= =/= < =< > >= ++ -- + - or xor * div rem and")
	others := strings.Fields("/ = -> <- || | ; : , ( ) after begin case end fun if of receive try catch when nor abs min =:: &&")
	all := append(append(append([]string{""}, ahead...), between...), others...)
	within := func(row []string, s string) bool {
		return strings.Contains(" "+strings.Join(row, " ")+" ", " "+s+" ") && s != ""
	}
	for _, s := range all {
		if node.Right(op(s)) || node.Right(op(s, x)) != within(ahead, s) || node.Right(op(s, x, one)) != within(between, s) || node.Right(op(s, x, one, f)) {
			t.Errorf("%q: %t, %t", s, node.Right(op(s, x)), node.Right(op(s, x, one)))
		}
	}
}

// P4.1
func TestLengths(t *testing.T) {
	for _, c := range []struct {
		made func(text string) api.Node
		of   string
		most int
	}{
		{atom, "a", 40}, {atom, "\x00", 40}, {variable, "X", 40}, {variable, "_", 40}, {text, "a", 400}, {text, "\xff", 400}, {num, "9", 400}, {num, "0", 400},
		{func(s string) api.Node { return named(s, 0) }, "a", 40},
		{func(s string) api.Node { return named(s, 0) }, "\xc3", 40},
		{func(s string) api.Node { return module(function(s, arm())) }, "a", 40},
		{func(s string) api.Node { return module(function(s, arm())) }, "\n", 40},
		{func(s string) api.Node { return try(block(x), arm(tuple(atom(s), x))) }, "a", 40},
		{func(s string) api.Node { return tuple(x, variable(s)) }, "X", 40},
	} {
		for _, size := range []int{1, c.most - 1, c.most, c.most + 1, c.most * 3, 1 << 20} {
			if n := c.made(strings.Repeat(c.of, size)); node.Right(n) != (size <= c.most) {
				t.Errorf("%d of %q, in kind %d: %t", size, c.of, n.Kind, node.Right(n))
			}
		}
	}
}

// P4.1
func TestBytesOfTexts(t *testing.T) {
	const digits, upper, lower = "0123456789", "ABCDEFGHIJKLMNOPQRSTUVWXYZ", "abcdefghijklmnopqrstuvwxyz"
	for c := range 256 {
		s := string([]byte{byte(c)})
		if !node.Right(atom(s)) || !node.Right(text(s)) || !node.Right(named(s, 1)) {
			t.Errorf("%q is no name, no text", s)
		}
		isDigit := strings.Contains(digits, s)
		if node.Right(num(s)) != isDigit || node.Right(num("1"+s+"2")) != isDigit {
			t.Errorf("%q as a digit", s)
		}
		if node.Right(variable(s)) != strings.Contains(upper+"_", s) {
			t.Errorf("%q at the beginning of a variable", s)
		}
		inside := strings.Contains(upper+lower+digits+"_@", s)
		if node.Right(variable("X"+s)) != inside || node.Right(variable("_a"+s+"b")) != inside {
			t.Errorf("%q in a variable", s)
		}
	}
}

// P4.1
func TestNums(t *testing.T) {
	for _, i := range []int{math.MinInt, -1, 0, 1, 2, 12, 13, 254, 255, 256, 1 << 32, math.MaxInt} {
		for _, c := range []struct {
			n     api.Node
			right bool
		}{
			{named("f", i), 0 <= i && i <= 255},
			{numbered(i, list()), i == 0}, {numbered(i, list(x)), i == 0}, {numbered(i, list(x, x)), i == 0 || i == 1}, {numbered(i, list(x, x, x)), i == 0 || i == 1},
			{numbered(i, receive(arm(x))), i == 0}, {numbered(i, receive(arm(x), arm(x))), i == 0}, {numbered(i, receive(late)), i == 1}, {numbered(i, receive(arm(x), late)), i == 1}, {numbered(i, receive()), false},
			{module(numbered(i, function("f", arm()))), i == 0}, {module(numbered(i, function("f", arm(x)))), i == 1}, {module(numbered(i, function("f", arm(x, x), arm()))), i == 2},
			{module(numbered(i, function("f", arm(repeated(x, 13)...)))), i == 13}, {module(numbered(i, function("f", arm(repeated(x, 256)...)))), i == 256},
			{numbered(i, module()), i == 0}, {numbered(i, tuple()), i == 0}, {numbered(i, num("1")), i == 0}, {numbered(i, block(x)), i == 0},
		} {
			if node.Right(c.n) != c.right {
				t.Errorf("%d: %v: %t", i, c.n, !c.right)
			}
		}
	}
}

// P4.1: in each right tree, each field of each node that the table leaves empty, and each At.
func TestFields(t *testing.T) {
	hasText := map[api.NodeKind]bool{api.NodeInt: true, api.NodeAtom: true, api.NodeVar: true, api.NodeText: true, api.NodeOp: true, api.NodeName: true, api.NodeFunction: true}
	hasNum := map[api.NodeKind]bool{api.NodeList: true, api.NodeName: true, api.NodeReceive: true, api.NodeFunction: true}
	for i, n := range rightTrees() {
		n = copied(n)
		eachNode(&n, func(within *api.Node) {
			was := *within
			ask := func(right bool, what string) {
				if node.Right(n) != right {
					t.Errorf("tree %d, at a node of kind %d: %s: %t", i, was.Kind, what, !right)
				}
				*within = was
			}
			for _, at := range []int{0, 1, math.MaxInt} {
				within.At = at
				ask(true, "an At from 0 on")
			}
			for _, at := range []int{-1, math.MinInt} {
				within.At = at
				ask(false, "an At below 0")
			}
			if !hasText[was.Kind] {
				within.Text = "a"
				ask(false, "a Text")
			}
			if !hasNum[was.Kind] {
				within.Num = 1
				ask(false, "a Num")
				within.Num = -1
				ask(false, "a Num")
			}
			for _, kind := range []api.NodeKind{0, 23, 128, 255} {
				within.Kind = kind
				ask(false, "no kind")
			}
		})
	}
}

// P4.1: kinds without kids.
func TestLeaves(t *testing.T) {
	for _, n := range []api.Node{one, f, x, text("a"), named("f", 1)} {
		n.Kids = []api.Node{}
		if !node.Right(n) { // R6
			t.Errorf("%v", n)
		}
		n.Kids = []api.Node{one}
		if node.Right(n) || node.Pattern(n) || node.Guard(n) {
			t.Errorf("%v", n)
		}
	}
}

// wrappers put an item into another one, and say how much deeper that is.
func wrappers() []struct {
	deeper int
	around func(n api.Node) api.Node
} {
	return []struct {
		deeper int
		around func(n api.Node) api.Node
	}{
		{1, func(n api.Node) api.Node { return tuple(n) }}, {1, func(n api.Node) api.Node { return tuple(one, n, one) }},
		{1, func(n api.Node) api.Node { return tailed(one, n) }}, {1, func(n api.Node) api.Node { return op("-", n) }},
		{1, func(n api.Node) api.Node { return match(x, n) }}, {1, func(n api.Node) api.Node { return call(n) }},
		{1, func(n api.Node) api.Node { return block(n) }}, {1, func(n api.Node) api.Node { return comp(n, one) }},
		{2, func(n api.Node) api.Node { return comp(x, gen(x, n)) }}, {2, func(n api.Node) api.Node { return try(block(n), caught) }},
		{3, func(n api.Node) api.Node { return fun(arm(n)) }}, {3, func(n api.Node) api.Node { return fun(when(block(), block(), n)) }},
		{3, func(n api.Node) api.Node { return choose(x, arm(n)) }}, {4, func(n api.Node) api.Node { return iffy(when(block(), block(block(n)), x)) }},
		{2, func(n api.Node) api.Node { return timed(after(n, block(x))) }}, {3, func(n api.Node) api.Node { return timed(after(x, block(n))) }},
		{4, func(n api.Node) api.Node { return try(block(x), arm(tuple(f, n))) }},
	}
}

// P4.1: 50 deep, and one deeper, by each kind that has kids.
func TestDepthOfRight(t *testing.T) {
	for i, w := range wrappers() {
		for _, deep := range []int{49, 50, 51, 52, 100} {
			n := w.around(nested(one, deep-w.deeper-1))
			if node.Deep(n) != deep || node.Right(n) != (deep <= 50) {
				t.Errorf("%d, %d deep: %d, %t", i, deep, node.Deep(n), node.Right(n))
			}
			n = module(function("f", when(block(), block(), w.around(nested(one, deep-w.deeper-5)))))
			if node.Deep(n) != deep || node.Right(n) != (deep <= 50) {
				t.Errorf("%d in a module, %d deep: %d, %t", i, deep, node.Deep(n), node.Right(n))
			}
		}
		n := one
		for range 60 {
			if deep := howDeep(n); node.Deep(n) != deep || node.Right(n) != (deep <= 50) {
				t.Errorf("%d, %d deep: %d, %t", i, deep, node.Deep(n), node.Right(n))
			}
			n = w.around(n)
		}
	}
	for _, deep := range []int{50, 51} { // as patterns and guards too
		if n := nested(one, deep-1); node.Pattern(n) != (deep <= 50) || node.Guard(n) != (deep <= 50) {
			t.Errorf("%d deep: %t, %t", deep, node.Pattern(n), node.Guard(n))
		}
	}
}

// P4.1: 16384 nodes, and one more.
func TestManyNodes(t *testing.T) {
	for _, many := range []int{16383, 16384, 16385, 16386, 100000} {
		right := many <= 16384
		halves := tuple(tuple(repeated(one, many/2-1)...), tuple(repeated(x, many-many/2-2)...))
		for i, n := range []api.Node{tuple(repeated(one, many-1)...), call(repeated(f, many-1)...), halves} {
			if node.Right(n) != right || node.Guard(n) != right || i != 1 && node.Pattern(n) != right {
				t.Errorf("%d, tree %d: %t, %t, %t", many, i, node.Right(n), node.Pattern(n), node.Guard(n))
			}
		}
		for i, n := range []api.Node{
			block(repeated(x, many-1)...), comp(repeated(x, many-1)...), fun(arm(repeated(x, many-6)...)), module(function("f", arm(repeated(x, many-7)...))),
			module(append(repeated(function("f", arm()), (many-1)/6-1), function("f", arm(repeated(x, (many-1)%6)...)))...),
		} {
			if node.Right(n) != right {
				t.Errorf("%d, tree %d: %t", many, i, node.Right(n))
			}
		}
	}
}

// P4.2, P4.3: kinds that may be, in them all that may be, and what may not.
func TestPatternsAndGuards(t *testing.T) {
	minus := op("-", one)
	for i, c := range []struct {
		n              api.Node
		pattern, guard bool
	}{
		{one, true, true}, {f, true, true}, {x, true, true}, {variable("_"), true, true}, {text("a"), true, true},
		{tuple(), true, true}, {list(), true, true}, {tuple(one, x), true, true}, {tailed(one, x), true, true}, {list(text(""), tuple(f)), true, true},
		{match(x, one), true, false}, {match(match(x, one), tuple(x)), true, false}, {tuple(match(x, one)), true, false}, {match(x, call(f)), false, false}, {match(x, minus), true, false}, {match(x, op("-", x)), false, false},
		{minus, true, true}, {tuple(minus), true, true}, {op("-", x), false, true}, {op("-", minus), false, true}, {op("-", tuple(one)), false, true}, {op("+", one), false, true}, {op("not", one), false, true}, {op("-", one, one), false, true}, {op("+", one, x), false, true}, {tuple(op("+", one)), false, true},
		{op("andalso", x, op("orelse", x, f)), false, true}, {op("-", op("++", x, x)), false, false}, {tuple(op("!", x, x)), false, false}, {op("+", x, op("--", x, x)), false, false},
		{call(f), false, true}, {call(f, x, call(atom(""), one)), false, true}, {tuple(call(f)), false, true}, {call(x), false, false}, {call(call(f)), false, false}, {call(f, call(x)), false, false}, {call(f, match(x, one)), false, false}, {call(text("f")), false, false}, {call(f, op("++", x, x)), false, false}, {call(f, fun(arm())), false, false},
		{fun(arm()), false, false}, {named("f", 1), false, false}, {choose(x, arm(x)), false, false}, {iffy(guarded()), false, false}, {receive(arm(x)), false, false}, {timed(late), false, false}, {try(block(x), caught), false, false}, {comp(x, gen(x, x)), false, false}, {comp(x, x), false, false}, {block(x), false, false},
		{tuple(named("f", 1)), false, false}, {tuple(block(x)), false, false}, {list(one, fun(arm())), false, false}, {tailed(one, comp(x, x)), false, false},
		{module(), false, false}, {module(function("f", arm())), false, false}, {arm(), false, false}, {late, false, false}, {gen(x, x), false, false}, {block(), false, false}, {api.Node{}, false, false}, {of(23), false, false},
		{tailed(one), false, false}, {variable("y"), false, false}, {tuple(num("")), false, false}, {tuple(tuple(variable(""))), false, false}, {match(x), false, false}, {op("-"), false, false}, {op("-", num("x")), false, false}, {call(), false, false}, {op("/", x, x), false, false}, {op("++", x), false, false}, {api.Node{Kind: api.NodeInt, Text: "1", At: -1}, false, false}, {tuple(api.Node{Kind: api.NodeVar, Text: "X", At: -1}), false, false}, {numbered(1, tuple(x)), false, false},
	} {
		if node.Pattern(c.n) != c.pattern || node.Guard(c.n) != c.guard {
			t.Errorf("%d: %v: %t, %t", i, c.n, node.Pattern(c.n), node.Guard(c.n))
		}
	}
	for _, s := range strings.Fields("! orelse andalso == /= =:= =/= < =< > >= ++ -- + - or xor * div rem and") {
		if n := op(s, x, one); node.Pattern(n) || node.Guard(n) == strings.Contains(" ! ++ -- ", " "+s+" ") {
			t.Errorf("%s: %t, %t", s, node.Pattern(n), node.Guard(n))
		}
	}
	for _, n := range wrongTrees() {
		if node.Pattern(n) || node.Guard(n) {
			t.Errorf("%v: %t, %t", n, node.Pattern(n), node.Guard(n))
		}
	}
}

// The chapter's examples.
func TestExamples(t *testing.T) {
	for _, c := range []struct {
		n                     api.Node
		right, pattern, guard bool
	}{
		{tuple(one, x), true, true, true}, {match(x, one), true, true, false}, {call(f, x), true, false, true}, {op("-", one), true, true, true},
		{call(call(f, x), variable("Y")), true, false, false}, {block(), false, false, false},
		{choose(x), false, false, false}, {choose(x, arm(x, x)), false, false, false}, {tailed(one), false, false, false}, {variable("x"), false, false, false},
	} {
		if node.Right(c.n) != c.right || node.Pattern(c.n) != c.pattern || node.Guard(c.n) != c.guard {
			t.Errorf("%v: %t, %t, %t", c.n, node.Right(c.n), node.Pattern(c.n), node.Guard(c.n))
		}
	}
}

// P4.4
func TestItemsWithinRightOnes(t *testing.T) {
	for i, n := range rightTrees() {
		itemsAreRight(t, i, n)
	}
}

// itemsAreRight asks that each item in n is right: all nodes of an item's kind, but for rows of patterns and guards that are none.
func itemsAreRight(t *testing.T, tree int, n api.Node) {
	t.Helper()
	eachNode(&n, func(within *api.Node) {
		switch {
		case within.Kind == api.NodeBlock && len(within.Kids) == 0:
		case within.Kind == api.NodeAfter || within.Kind == api.NodeGen || within.Kind > api.NodeBlock:
		case !node.Right(*within):
			t.Errorf("tree %d: %v", tree, *within)
		}
	})
}

// P4.4
func TestTurnedPlaces(t *testing.T) {
	for i, n := range append(rightTrees(), wrongTrees()...) {
		turned := copied(n)
		at := 7
		eachNode(&turned, func(n *api.Node) {
			at = (at*31 + 5) % 65537
			if n.At >= 0 {
				n.At = at
			}
		})
		if !node.Same(n, turned) || !node.Same(turned, n) || node.Right(n) != node.Right(turned) || node.Pattern(n) != node.Pattern(turned) || node.Guard(n) != node.Guard(turned) || node.Deep(n) != node.Deep(turned) {
			t.Errorf("%d: %v", i, n)
		}
		eachNode(&turned, func(n *api.Node) { n.At = -n.At }) // Same is for any node
		if !node.Same(n, turned) || !node.Same(turned, n) {
			t.Errorf("%d, below 0: %v", i, n)
		}
	}
}

// R3
func TestArgumentsStay(t *testing.T) {
	trees := append(rightTrees(), wrongTrees()...)
	for i, n := range trees {
		was := copied(n)
		node.Right(n)
		node.Pattern(n)
		node.Guard(n)
		node.Deep(n)
		node.Same(n, trees[(i+1)%len(trees)])
		if !reflect.DeepEqual(n, was) {
			t.Errorf("%d: %v, was %v", i, n, was)
		}
	}
}

// eachNode goes through n and all that is in it, each ahead of its kids.
func eachNode(n *api.Node, do func(n *api.Node)) {
	do(n)
	for i := range n.Kids {
		eachNode(&n.Kids[i], do)
	}
}

// copied is n in memory of its own.
func copied(n api.Node) api.Node {
	if n.Kids != nil {
		kids := make([]api.Node, len(n.Kids))
		for i := range kids {
			kids[i] = copied(n.Kids[i])
		}
		n.Kids = kids
	}
	return n
}
