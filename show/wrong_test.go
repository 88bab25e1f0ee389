package show_test

import (
	"fmt"
	"reflect"
	"strings"
	"testing"
	"unsafe"

	"pigeonhole/api"
	"pigeonhole/node"
	"pigeonhole/show"
)

// P6.1: trees that are not right, by themselves and within others.
func TestWrongTrees(t *testing.T) {
	plain := clause(row(x), nil, row(a))
	for i, n := range []api.Node{
		{}, {Kind: 23}, {Kind: 255}, of(api.NodeAtom, a), numbered(1, a), {Kind: api.NodeAtom, At: -1}, atom(strings.Repeat("a", 41)), text(strings.Repeat("a", 401)),
		whole(""), whole("1a"), whole("-1"), whole(strings.Repeat("1", 401)), variable(""), variable("x"), variable("X-"), variable("A" + strings.Repeat("a", 40)),
		said(api.NodeTuple, "a"), numbered(1, tuple(a)), tailed(), tailed(a), numbered(2, list(a, b)), numbered(-1, list(a, b)),
		op("", a), op("!", a), op("*", a), op("not", a, b), op("=", a, b), op("-"), op("-", a, b, c), numbered(1, op("-", a)), match(a), match(a, b, c), said(api.NodeMatch, "=", a, b), call(),
		named("f", -1), named("f", 256), named(strings.Repeat("f", 41), 1), fun(), fun(a), choice(a), choice(plain), choice(a, clause(nil, nil, row(a))), choice(a, clause(row(x, y), nil, row(a))),
		iffy(), iffy(clause(nil, nil, row(a))), iffy(clause(row(x), row(block(a)), row(a))), iffy(clause(nil, row(block()), row(a))), receive(), numbered(1, receive(plain)), receive(after(one, a)), numbered(2, receive(plain)), receive(after(one, a), plain), timed(after(one)), timed(after(one, a), after(one, a)),
		try(block(a)), try(block(), clause(row(tuple(b, x)), nil, row(c))), try(a, clause(row(tuple(b, x)), nil, row(c))), try(block(a), plain), try(block(a), clause(row(tuple(one, x)), nil, row(c))), try(block(a), clause(row(tuple(b, x, y)), nil, row(c))),
		comp(a), comp(), comp(gen(x, a), a), comp(a, of(api.NodeGen, x)), block(), fun(clause(nil, nil, nil)), fun(of(api.NodeClause, block(), block())), fun(clause(nil, row(a), row(a))),
	} {
		none(t, fmt.Sprint(i), n)
		none(t, fmt.Sprint(i, " in a tuple"), tuple(a, n))
		none(t, fmt.Sprint(i, " in a module"), module(function("f", clause(nil, nil, row(a, n)))))
		none(t, fmt.Sprint(i, " as a function"), module(n))
	}
}

// P6.1: nodes that are parts of items or of modules, and no items.
func TestPartsAlone(t *testing.T) {
	plain := function("f", clause(nil, nil, row(a)))
	for name, n := range map[string]api.Node{
		"clause": clause(row(x), nil, row(a)), "gen": gen(x, a), "after": after(one, a), "function": plain, "numbered module": numbered(1, module()), "module with a text": said(api.NodeModule, "a"),
		"function of another arity": module(numbered(1, plain)), "function without clauses": module(said(api.NodeFunction, "f")), "module in a module": module(module()), "item in a module": module(a),
		"function in a tuple": tuple(plain), "module in a tuple": tuple(module()), "gen in a tuple": tuple(gen(x, a)), "long name": module(function(strings.Repeat("f", 41), clause(nil, nil, row(a)))), "place below 0": {Kind: api.NodeModule, At: -1},
	} {
		none(t, name, n)
	}
}

// P6.1: as deep and as many as may be, and one more.
func TestLimits(t *testing.T) {
	deep := func(times int, around func(n api.Node) api.Node, inside api.Node) api.Node {
		for range times {
			inside = around(inside)
		}
		return inside
	}
	inTuple := func(n api.Node) api.Node { return tuple(n) }
	is(t, deep(49, inTuple, a), strings.Repeat("{", 49)+"a"+strings.Repeat("}", 49))
	none(t, "51 deep", deep(50, inTuple, a))
	none(t, "very deep", deep(1000000, inTuple, a))
	is(t, deep(49, func(n api.Node) api.Node { return op("-", n) }, a), strings.Repeat("- ", 48)+"-a")
	is(t, deep(49, func(n api.Node) api.Node { return op("+", a, n) }, b), strings.Repeat("a + (", 48)+"a + b"+strings.Repeat(")", 48))
	is(t, deep(49, func(n api.Node) api.Node { return op("+", n, a) }, b), "b"+strings.Repeat(" + a", 49))
	is(t, module(function("f", clause(nil, nil, row(deep(45, inTuple, a))))), "f() -> "+strings.Repeat("{", 45)+"a"+strings.Repeat("}", 45)+".\n")
	none(t, "a module, 51 deep", module(function("f", clause(nil, nil, row(deep(46, inTuple, a))))))

	many := func(times int) []api.Node {
		out := make([]api.Node, times)
		for i := range out {
			out[i] = a
		}
		return out
	}
	is(t, tuple(many(16383)...), "{"+strings.Repeat("a, ", 16382)+"a}")
	none(t, "16385 nodes", tuple(many(16384)...))
	is(t, module(function("f", clause(nil, nil, many(16378)))), "f() -> "+strings.Repeat("a, ", 16377)+"a.\n")
	none(t, "a module of 16385 nodes", module(function("f", clause(nil, nil, many(16379)))))
	none(t, "2 to the 40th nodes", deep(40, func(n api.Node) api.Node { return tuple(n, n) }, a))
}

// R1: trees that lead back into themselves.
func TestLoops(t *testing.T) {
	for name, kind := range map[string]api.NodeKind{"tuple": api.NodeTuple, "list": api.NodeList, "call": api.NodeCall, "block": api.NodeBlock, "module": api.NodeModule, "comp": api.NodeComp, "match": api.NodeMatch} {
		loop := of(kind, make([]api.Node, 2)...)
		loop.Kids[0], loop.Kids[1] = loop, loop
		none(t, name, loop)
		late := tuple(a, b)
		late.Kids[1] = tuple(late)
		none(t, name, of(kind, a, late))
	}
	body := []api.Node{{}}
	body[0] = fun(of(api.NodeClause, block(), block(), api.Node{Kind: api.NodeBlock, Kids: body}))
	none(t, "fun", body[0])
	none(t, "function", module(function("f", clause(nil, nil, body))))
}

// P6.2: what is longer than a source may be has its text, too.
func TestLongerThanASource(t *testing.T) {
	long := text(strings.Repeat("\x00", 400))
	items := make([]api.Node, 16383)
	for i := range items {
		items[i] = long
	}
	want := `"` + strings.Repeat(`\x00`, 400) + `"`
	is(t, list(items[:40]...), "["+strings.Repeat(want+", ", 39)+want+"]")
	is(t, list(items[:41]...), "["+strings.Repeat(want+", ", 40)+want+"]")
	is(t, list(items...), "["+strings.Repeat(want+", ", 16382)+want+"]")
	just := list(append(items[:40:40], text(strings.Repeat("a", 400)), text(strings.Repeat("b", 400)), text(strings.Repeat("c", 400)), atom(strings.Repeat("d", 40)))...)
	s := shown(t, just)
	rest := api.MaxSource - len(s)
	for more := range 2 {
		n := list(append(just.Kids, whole(strings.Repeat("1", rest-2+more)))...)
		if got := shown(t, n); len(got) != api.MaxSource+more {
			t.Errorf("%d bytes", len(got))
		}
		is(t, n, s[:len(s)-1]+", "+strings.Repeat("1", rest-2+more)+"]")
	}
}

// P6.1, R6: rows that are nil, and rows without elements.
func TestNilRows(t *testing.T) {
	none := []api.Node{}
	is(t, api.Node{Kind: api.NodeTuple, Kids: none}, "{}")
	is(t, api.Node{Kind: api.NodeModule, Kids: none}, "")
	is(t, fun(of(api.NodeClause, block(none...), api.Node{Kind: api.NodeBlock, Kids: none}, block(a))), "fun () -> a end")
	is(t, tuple(api.Node{Kind: api.NodeAtom, Text: "a", Kids: none}), "{a}")
}

// R3, R4: nothing of the tree is changed or handed out, and the answer is the same each time.
func TestAnswersAreNew(t *testing.T) {
	trees := []api.Node{one, x, a, text("ab"), atom("a b"), named("f", 1), module()}
	for _, n := range closed() {
		trees = append(trees, n.n, module(function("f", clause(row(n.n), row(block(n.n)), row(n.n)))))
	}
	for _, n := range trees {
		each(&n, func(n *api.Node) { n.Text = strings.Clone(n.Text) })
		before := copied(n)
		first := shown(t, n)
		if second := shown(t, n); second != first {
			t.Errorf("%s, then %s", first, second)
		}
		if !reflect.DeepEqual(n, before) {
			t.Errorf("%s: the tree is another", first)
		}
		each(&n, func(n *api.Node) {
			if n.Text != "" && within(n.Text, first) {
				t.Errorf("%s: memory of the tree", first)
			}
		})
	}
}

// within says whether two texts share memory.
func within(s, t string) bool {
	place := func(s string) uintptr { return uintptr(unsafe.Pointer(unsafe.StringData(s))) }
	return place(s) < place(t)+uintptr(len(t)) && place(t) < place(s)+uintptr(len(s))
}

// P6.1: each item within a right one has a text of its own.
func TestItemsWithin(t *testing.T) {
	for _, n := range closed() {
		each(&n.n, func(n *api.Node) {
			if s, err := show.Expr(*n); (err == api.OK) != node.Right(*n) || (s == "") != (err != api.OK) {
				t.Errorf("%v: %q, %v", *n, s, err)
			}
		})
	}
}
