package lint_test

import (
	"runtime/debug"
	"strings"
	"testing"
	"time"

	"pigeonhole/api"
	"pigeonhole/lint"
	"pigeonhole/node"
	"pigeonhole/parse"
)

var noModule = api.Fault{Err: api.ErrShape}

// shapeless asks that n is told to be no module.
func shapeless(t *testing.T, what string, n api.Node) {
	t.Helper()
	if got := lint.Check(n); got != noModule {
		t.Errorf("%s: %v", what, got)
	}
}

// clause is one without guards.
func clause(patterns []api.Node, body ...api.Node) api.Node {
	return of(api.NodeClause, of(api.NodeBlock, patterns...), of(api.NodeBlock), of(api.NodeBlock, body...))
}

// module is one of a function f of no patterns.
func module(body ...api.Node) api.Node {
	return of(api.NodeModule, said(api.NodeFunction, "f", clause(nil, body...)))
}

// P7.2: items that are right, and no modules, and parts of modules.
func TestNoModules(t *testing.T) {
	for _, s := range []string{"1", "a", "X", `"t"`, "{}", "[1 | 2]", "-1", "a + b", "X = 1", "f(1)", "fun () -> 1 end", "fun f/1", "case 1 of _ -> 1 end", "if true -> 1 end", "receive X -> X end", "receive after 1 -> 1 end", "try 1 catch _ : _ -> 1 end", "[X || X <- []]", "begin 1 end"} {
		n, fault := parse.Expr(s)
		if fault.Err != api.OK || !node.Right(n) {
			t.Fatal(s, fault)
		}
		shapeless(t, s, n)
		for kind := range 256 {
			n.Kind = api.NodeKind(kind)
			if n.Kind != api.NodeModule {
				shapeless(t, s+" of another kind", n)
			}
		}
	}
	m, _ := parse.Module("f(X) when X -> X.")
	visit(&m, func(n *api.Node) {
		if n.Kind != api.NodeModule {
			shapeless(t, "a part", *n)
		}
	})
	shapeless(t, "nothing", api.Node{})
	shapeless(t, "nothing, at a place", api.Node{At: 7})
}

// P7.2: modules that are not right; faults that they would have play no part.
func TestWrongModules(t *testing.T) {
	free := said(api.NodeVar, "Y")
	plain := said(api.NodeFunction, "f", clause(nil, free))
	numbered := plain
	numbered.Num = 1
	below := plain
	below.At = -1
	for what, n := range map[string]api.Node{
		"Num": {Kind: api.NodeModule, Num: 1}, "Text": said(api.NodeModule, "a"), "At": {Kind: api.NodeModule, At: -1}, "item": of(api.NodeModule, free), "module": of(api.NodeModule, of(api.NodeModule)), "clause": of(api.NodeModule, clause(nil, one)),
		"function without clauses": of(api.NodeModule, said(api.NodeFunction, "f")), "function of another arity": of(api.NodeModule, numbered), "function ahead of all": of(api.NodeModule, below), "two functions and an item": of(api.NodeModule, plain, plain, free), "long name": of(api.NodeModule, said(api.NodeFunction, strings.Repeat("f", 41), clause(nil, one))), "function of an item": of(api.NodeModule, said(api.NodeFunction, "f", one)),
		"no body": module(), "variable": module(free, said(api.NodeVar, "y")), "operator": module(free, said(api.NodeOp, "!!", one, one)), "operator of three": module(said(api.NodeOp, "-", one, one, one)), "match of one": module(of(api.NodeMatch, one)), "call of nothing": module(of(api.NodeCall)), "fun without clauses": module(of(api.NodeFun)), "case without clauses": module(of(api.NodeCase, one)), "receive of nothing": module(of(api.NodeReceive)), "after that is not told of": module(of(api.NodeReceive, of(api.NodeAfter, one, of(api.NodeBlock, one)))),
		"try of a plain clause": module(of(api.NodeTry, of(api.NodeBlock, one), clause([]api.Node{one}, one))), "comprehension of one": module(of(api.NodeComp, one)), "generator": module(of(api.NodeGen, one, one)), "block of nothing": module(of(api.NodeBlock)), "clause within": module(clause(nil, one)), "function within": module(plain), "tail alone": module(api.Node{Kind: api.NodeList, Num: 1, Kids: []api.Node{one}}), "kind": module(api.Node{Kind: 77}),
		"if without guards": module(of(api.NodeIf, clause(nil, one))), "clause of two": module(of(api.NodeFun, of(api.NodeClause, of(api.NodeBlock), of(api.NodeBlock)))), "guards that are no rows": module(of(api.NodeFun, of(api.NodeClause, of(api.NodeBlock), of(api.NodeBlock, one), of(api.NodeBlock, one)))),
	} {
		shapeless(t, what, n)
	}
}

// nested is n within so many tuples.
func nested(n api.Node, times int) api.Node {
	for range times {
		n = of(api.NodeTuple, n)
	}
	return n
}

// P7.2, R1: as deep and as many as may be, and one more.
func TestLimits(t *testing.T) {
	free := api.Node{Kind: api.NodeVar, Text: "Y", At: 9}
	if got := lint.Check(module(nested(one, 45))); got != (api.Fault{}) {
		t.Errorf("50 deep: %v", got)
	}
	if got := lint.Check(module(nested(free, 45))); got != (api.Fault{Err: api.ErrFree, At: 9}) {
		t.Errorf("50 deep: %v", got)
	}
	shapeless(t, "51 deep", module(nested(free, 46)))
	many := make([]api.Node, 16379)
	for i := range many {
		many[i] = one
	}
	if got := lint.Check(module(many[:16378]...)); got != (api.Fault{}) {
		t.Errorf("16384 nodes: %v", got)
	}
	shapeless(t, "16385 nodes", module(many...))
	many[16377] = free
	if got := lint.Check(module(many[:16378]...)); got != (api.Fault{Err: api.ErrFree, At: 9}) {
		t.Errorf("16384 nodes: %v", got)
	}
	if got := lint.Check(of(api.NodeModule)); got != (api.Fault{}) {
		t.Errorf("no functions: %v", got)
	}
	if got := lint.Check(api.Node{Kind: api.NodeModule, At: 5, Kids: []api.Node{}}); got != (api.Fault{}) { // R6
		t.Errorf("no functions: %v", got)
	}
}

// R1: trees that are deeper than the stack has room, have kids in common, or lead back into themselves.
func TestEndless(t *testing.T) {
	defer debug.SetMaxStack(debug.SetMaxStack(1 << 20))
	chain := make([]api.Node, 300000)
	for i := range len(chain) - 1 {
		chain[i] = api.Node{Kind: api.NodeTuple, Kids: chain[i+1 : i+2]}
	}
	chain[len(chain)-1] = one
	shapeless(t, "300000 deep", module(chain[0]))
	doubled := one
	for range 44 {
		doubled = of(api.NodeTuple, doubled, doubled)
	}
	shapeless(t, "2 to the 44th nodes", module(doubled))
	for _, kind := range []api.NodeKind{api.NodeTuple, api.NodeList, api.NodeMatch, api.NodeCall, api.NodeBlock, api.NodeModule, api.NodeFunction, api.NodeClause, api.NodeComp, api.NodeFun} {
		loop := of(kind, make([]api.Node, 2)...)
		loop.Kids[0], loop.Kids[1] = loop, loop
		shapeless(t, "a loop", loop)
		shapeless(t, "a loop within", module(loop))
		shapeless(t, "a loop in a module", of(api.NodeModule, loop))
	}
	body := make([]api.Node, 1)
	body[0] = of(api.NodeFun, of(api.NodeClause, of(api.NodeBlock), of(api.NodeBlock), api.Node{Kind: api.NodeBlock, Kids: body}))
	shapeless(t, "a fun in itself", module(body...))
	functions := make([]api.Node, 1)
	functions[0] = api.Node{Kind: api.NodeModule, Kids: functions}
	shapeless(t, "a module in itself", functions[0])
}

// P7.2: parts in common are checked wherever they stand.
func TestKidsInCommon(t *testing.T) {
	x := api.Node{Kind: api.NodeVar, Text: "X", At: 3}
	bound := of(api.NodeMatch, x, one)
	row := []api.Node{bound, x}
	for i, c := range []struct {
		body []api.Node
		want api.Fault
	}{
		{row, api.Fault{}},
		{row[1:], api.Fault{Err: api.ErrFree, At: 3}},
		{[]api.Node{of(api.NodeBlock, row...), of(api.NodeBlock, row...)}, api.Fault{}},
		{[]api.Node{of(api.NodeBlock, row...), of(api.NodeBlock, row[1:]...)}, api.Fault{Err: api.ErrUnsafe, At: 3}},
	} {
		if got := lint.Check(module(c.body...)); got != c.want {
			t.Errorf("%d: %v", i, got)
		}
	}
}

// R1: names and parts of which there are many take no long time.
func TestManyNames(t *testing.T) {
	var long, deep, wide strings.Builder
	name := func(i int) string {
		return "A" + string([]byte{byte('a' + i%26), byte('a' + i/26%26), byte('a' + i/676)})
	}
	for i := range 2000 {
		long.WriteString(name(i) + " = 1, ")
	}
	for range 2500 {
		long.WriteString("begin 1 end, ")
	}
	for i := range 40 {
		deep.WriteString("begin ")
		for k := range 90 {
			deep.WriteString(name(i*90+k) + " = 1, ")
		}
	}
	for i := range 1200 {
		wide.WriteString("case 1 of " + name(i) + " -> " + name(i) + " end, ")
	}
	begun := time.Now()
	for i := range 2000 {
		if i%100 == 0 {
			faulty(t, api.ErrUnsafe, "f() -> begin "+long.String()+"1 end, ^"+name(i)+".")
		}
	}
	sound(t, "f() -> "+long.String()+name(1999)+".", "f() -> "+deep.String()+name(0)+strings.Repeat(" end", 40)+".")
	faulty(t, api.ErrUnsafe, "f() -> "+deep.String()+"1"+strings.Repeat(" end", 40)+", ^"+name(39*90)+".", "f() -> "+wide.String()+"^"+name(600)+".")
	if spent := time.Since(begun); spent > time.Minute {
		t.Errorf("%v", spent)
	}
}
