package core_test

import (
	"math/big"
	"reflect"
	"strings"
	"testing"

	"pigeonhole/api"
	"pigeonhole/core"
)

// answers asks for an error, and, with one, for nothing beside it; without one the program is sound.
func answers(t *testing.T, about string, m api.Node, want api.Errno) api.Program {
	t.Helper()
	p, err := core.Make(m)
	if len(about) > 300 {
		about = about[:300] + " .."
	}
	if err != want || err != api.OK && p.Funcs != nil {
		t.Errorf("%s: %v, %d functions, not %v", about, err, len(p.Funcs), want)
	}
	if err == api.OK {
		if wrong := unsound(p); wrong != "" {
			t.Errorf("%s: %s", about, wrong)
		}
	}
	return p
}

// times is a text so many times, with commas between; # in it is another name each time.
func times(count int, text string) string {
	var out []string
	for i := range count {
		out = append(out, strings.ReplaceAll(text, "#", "V"+num(i)))
	}
	return strings.Join(out, ", ")
}

// greatest is how many variables the function has that has the most.
func greatest(p api.Program) int {
	out := 0
	for _, f := range p.Funcs {
		out = max(out, f.Vars)
	}
	return out
}

// P8.1: variables of a function, from all that wants them: so many parts may be, and have so many variables.
func TestVariablesOfAFunction(t *testing.T) {
	for _, c := range []struct {
		ahead, part, behind string
		most, vars          int
	}{
		{"f() -> ", "1", ".", 101, 100},
		{"f({", "#", "}) -> 1.", 99, 100},
		{"f(_, _, _, {", "#", "}) -> 1.", 96, 100},
		{"f() -> ", "1 = 1", ", 1.", 100, 100},
		{"f() -> ", "# = 1", ", 1.", 50, 100},
		{"f() -> ", "# = 1", ".", 49, 99},
		{"f() -> {", "begin # = 1 end", "}.", 33, 99},
		{"f() -> {", "case 1 of _ -> 1 end", "}.", 100, 100},
		{"f() -> {", "case 1 of # -> 1 end", "}.", 50, 100},
		{"f() -> {", "a andalso b", "}.", 100, 100},
		{"f() -> {", "a orelse b", "}.", 100, 100},
		{"f() -> {", "[a || b]", "}.", 100, 100},
		{"f() -> {", "receive # -> 1 end", "}.", 100, 100},
		{"f() -> {", "receive after 1 -> 1, 1 end", "}.", 100, 100},
		{"f() -> {", "try 1 catch # : 1 -> 1 end", "}.", 100, 100},
		{"f() -> {", "if a -> 1, 1 end", "}.", 100, 100},
		{"f() -> case 1 of {", "#", "} -> 1 end.", 99, 100},
		{"f() -> fun () -> ", "1", " end.", 101, 100},
		{"f() -> fun ({", "#", "}) -> 1 end.", 99, 100},
		{"f(X) -> fun ({", "#", "}) -> X end.", 98, 100},
		{"f() -> fun () -> fun () -> ", "1", " end end.", 101, 100},
		{"f() -> [1 || {", "#", "} <- []].", 95, 100},
		{"f(X) -> [X || {", "#", "} <- []].", 94, 100},
		{"f() -> [1 || _ <- [], {", "#", "} <- []].", 95, 100},
		{"f() -> [1 || _ <- [], ", "a", "].", 95, 100},
		{"f() -> [1 || ", "a", ", _ <- []].", 100, 100},
		{"f() -> [{", "a andalso b", "} || _ <- []].", 95, 100},
		{"f() -> [a || _ <- {", "a andalso b", "}].", 100, 100},
		{"f() -> 1. g() -> ", "1", ".", 101, 100},
		{"f() -> ", "1", ". g() -> 1.", 101, 100},
		{"f() -> ", "1", ", fun () -> " + times(101, "1") + " end.", 100, 100},
	} {
		for _, count := range []int{c.most - 1, c.most, c.most + 1, c.most + 2, 3 * c.most} {
			want := api.OK
			if count > c.most {
				want = api.ErrMany
			}
			source := c.ahead + times(count, c.part) + c.behind
			p := answers(t, source, parsed(t, source), want)
			if count == c.most && greatest(p) != c.vars {
				t.Errorf("%s: %d variables", source, greatest(p))
			}
		}
	}
}

// P8.1: parameters and captured ones together.
func TestParametersAndCapturedOnes(t *testing.T) {
	for _, c := range []struct {
		ahead, part, behind string
		most                int // of what is captured
	}{
		{"f({*}) -> fun () -> {", "#", "} end.", 12},
		{"f({*}) -> fun (_) -> {", "#", "} end.", 11},
		{"f({*}) -> fun (_, _, _, _, _, _, _, _, _, _, _, _) -> {", "#", "} end.", 0},
		{"f({*}) -> fun ({", "#", "}) -> 1 end.", 11},
		{"f({*}) -> fun () -> fun () -> {", "#", "} end end.", 12},
		{"f({*}) -> fun () -> fun (_, _) -> {", "#", "} end end.", 10},
		{"f({*}) -> fun (_, _) -> fun () -> {", "#", "} end end.", 10},
		{"f({*}) -> [{", "#", "} || _ <- []].", 10},
		{"f({*}) -> [1 || {", "#", "} <- []].", 10},
		{"f({*}) -> [1 || _ <- [], {", "#", "} == a].", 10},
		{"f({*}) -> [1 || _ <- [], _ <- {", "#", "}].", 10},
		{"f({*}) -> [1 || X <- [], _ <- a, {X, ", "#", "} == 1].", 9},
	} {
		for _, count := range []int{c.most, c.most + 1, c.most + 2, 40} {
			want := api.OK
			if count > c.most {
				want = api.ErrMany
			}
			source := strings.Replace(c.ahead, "*", times(count, "#"), 1) + times(count, c.part) + c.behind
			p := answers(t, source, parsed(t, source), want)
			if arity := 0; want == api.OK {
				for _, f := range p.Funcs {
					arity = max(arity, f.Arity)
				}
				if arity != 12 {
					t.Errorf("%s: %d", source, arity)
				}
			}
		}
	}
	// What no helper captures may be more.
	for _, source := range []string{
		"f({*}) -> [1 || _ <- {*}].", "f({*}) -> [1 || {*} == a].", "f({*}) -> [1 || {*}, _ <- []].", "f({*}) -> {fun (X) -> X end, {*}}.", "f({*}) -> fun f/1, {*}.",
		"f(X) -> fun () -> case X of {*} -> {*} end end.", "f(X) -> [{*} || {*} <- X].",
	} {
		source = strings.ReplaceAll(source, "*", times(30, "#"))
		answers(t, source, parsed(t, source), api.OK)
	}
}

// P8.1: integers and strings as great as a term may be, and one past that.
func TestGreatTerms(t *testing.T) {
	limit := new(big.Int).Lsh(big.NewInt(1), 1024)
	past := limit.String()
	most := new(big.Int).Sub(limit, big.NewInt(1)).String()
	for _, source := range []string{
		"f() -> *.", "f() -> - *.", "f(*) -> 1.", "f(-*) -> 1.", "f({a, [*|_]}) -> 1.", "f(X) when X == * -> 1.", "f(X) when a; b, [*] -> 1.", "f() -> * = 1.", "f() -> X = *, X.", "f() -> 1, *.",
		"f() -> {a, *}.", "f() -> [a|*].", "f() -> f(*). f(_) -> 1.", "f() -> self()(*).", "f() -> *().", "f() -> hd(*).", "f() -> a andalso *.", "f() -> * orelse a.",
		"f() -> fun () -> * end.", "f() -> fun (*) -> a end.", "f() -> fun (X) when X > * -> a end.", "f() -> case * of _ -> 1 end.", "f() -> case 1 of * -> 1 end.", "f() -> case 1 of 1 -> 1; _ -> * end.",
		"f() -> if * -> 1 end.", "f() -> if a -> * end.", "f() -> receive * -> 1 end.", "f() -> receive after * -> 1 end.", "f() -> receive after 1 -> * end.", "f() -> try * catch _ : _ -> 1 end.", "f() -> try 1 catch _ : * -> 1 end.", "f() -> try 1 catch _ : _ -> * end.",
		"f() -> begin * end.", "f() -> [* || a].", "f() -> [a || *].", "f() -> [a || _ <- *].", "f() -> [a || * <- b].", "f() -> [* || _ <- b].", "f() -> 1. g() -> 2; g() -> *.",
	} {
		fill := func(digits string) string { return strings.ReplaceAll(source, "*", digits) }
		for _, digits := range []string{most, strings.Repeat("0", 400-len(most)) + most, strings.Repeat("0", 400)} {
			p := answers(t, fill(digits), parsed(t, fill(digits)), api.OK)
			value := strings.TrimLeft(digits, "0")
			if value == "" {
				value = "0"
			}
			if !strings.Contains(strings.ReplaceAll(writeProgram(p), "-", ""), "Const "+value) {
				t.Errorf("%s: %s", fill(digits), writeProgram(p))
			}
		}
		for _, digits := range []string{past, "0" + past, strings.Repeat("9", 309), strings.Repeat("9", 400)} {
			answers(t, fill(digits), parsed(t, fill(digits)), api.ErrMany)
		}
		for _, text := range []string{strings.Repeat(`\xff`, 400), strings.Repeat("a", 400), ""} {
			if !strings.Contains(source, "-*") && !strings.Contains(source, "- *") {
				answers(t, fill(`"`+text+`"`), parsed(t, fill(`"`+text+`"`)), api.OK)
			}
		}
	}
	becomes(t, "f() -> "+most+".", "Const "+most)
	wholly(t, "f(-"+most+") -> 1.", "f 0+1/1 "+clause("0", "PatConst -"+most, "Const 1"))
	becomes(t, `f() -> "`+strings.Repeat("a", 400)+`".`, "Const ["+strings.Repeat("97,", 399)+"97]")
}

// alone is a module of one function, whose body is one item.
func alone(item api.Node) api.Node {
	return of(api.NodeModule, said(api.NodeFunction, "f", of(api.NodeClause, of(api.NodeBlock), of(api.NodeBlock), of(api.NodeBlock, item))))
}

// P8.1: one past what a tree may have, and trees that lead back into themselves.
func TestTreesThatAreNone(t *testing.T) {
	one := said(api.NodeInt, "1")
	deep := func(count int) api.Node {
		n := one
		for range count {
			n = of(api.NodeTuple, n)
		}
		return alone(n)
	}
	many := func(count int) api.Node {
		n := of(api.NodeList)
		for range count {
			n.Kids = append(n.Kids, one)
		}
		return alone(n)
	}
	round := alone(of(api.NodeTuple, one))
	body := round.Kids[0].Kids[0].Kids[2].Kids
	body[0].Kids[0] = round
	inner := of(api.NodeTuple, one)
	inner.Kids[0] = inner
	for about, n := range map[string]api.Node{
		"nothing": {}, "an item": one, "a function": alone(one).Kids[0], "a kind": of(23), "another kind": of(255, alone(one)), "a module in a module": of(api.NodeModule, alone(one)),
		"401 digits": alone(said(api.NodeInt, strings.Repeat("1", 401))), "401 bytes": alone(said(api.NodeText, strings.Repeat("1", 401))), "41 bytes": alone(said(api.NodeAtom, strings.Repeat("1", 41))),
		"no digits": alone(said(api.NodeInt, "")), "a minus": alone(said(api.NodeInt, "-1")), "a small letter": alone(said(api.NodeVar, "x")),
		"too deep": deep(46), "too many": many(16384 - 6), "round": round, "round inside": alone(inner),
		"a text": {Kind: api.NodeModule, Text: "f"}, "a number": {Kind: api.NodeModule, Num: 1}, "a place": {Kind: api.NodeModule, At: -1},
	} {
		answers(t, about, n, api.ErrShape)
	}
	answers(t, "deep", deep(45), api.OK)
	answers(t, "many", many(16384-7), api.OK)
	if p, err := core.Make(of(api.NodeModule)); err != api.OK || len(p.Funcs) != 0 {
		t.Error(p, err)
	}
}

// P8.1: each fault of lint is an ErrShape, alone and beside what would be an ErrMany, whichever stands first.
func TestFaultsOfLint(t *testing.T) {
	great := strings.Repeat("9", 400)
	for _, fault := range []string{
		"f() -> 1. f() -> 2.", "hd(X) -> X.", "f(X) -> 1; f() -> 2.", "f(" + times(13, "_") + ") -> 1.", "f() -> X.", "f() -> _.", "f(X) when Y -> X.", "f(X) -> case X of 1 -> Y = 2; _ -> 3 end, Y.", "f(X) -> begin Y = X end, Y.",
		"f(X) when self() == X -> 1.", "f(X) when X = 1 -> 1.", "f() -> g().", "f() -> fun g/1.", "f() -> fun f/1.", "f(1 + 1) -> 1.", "f(f()) -> 1.", "f() -> {X = 1}.", "f() -> print(" + times(13, "1") + ").", "f() -> 1(" + times(13, "1") + ").",
		"f() -> fun (X) -> 1; () -> 2 end.", "f() -> fun (" + times(13, "_") + ") -> 1 end.", "f() -> [X || a, X <- X].",
	} {
		answers(t, fault, parsed(t, fault), api.ErrShape)
		for _, many := range []string{"z() -> " + great + ".", "z() -> " + times(120, "1") + ".", "z({" + times(13, "#") + "}) -> fun () -> {" + times(13, "#") + "} end."} {
			answers(t, many, parsed(t, many), api.ErrMany)
			answers(t, fault+many, parsed(t, fault+" "+many), api.ErrShape)
			answers(t, many+fault, parsed(t, many+" "+fault), api.ErrShape)
		}
	}
	for _, source := range []string{"f() -> " + times(120, "1") + ", " + great + ".", "f() -> " + great + ". g() -> " + times(120, "1") + "."} {
		answers(t, source, parsed(t, source), api.ErrMany)
	}
}

// P8.1, R1: as many helpers as a tree has room for. (More than MaxCode can't be.)
func TestManyFunctions(t *testing.T) {
	const count = 5400
	gen := of(api.NodeGen, said(api.NodeVar, "_"), said(api.NodeAtom, "a"))
	n := of(api.NodeComp, said(api.NodeInt, "1"))
	for range count {
		n.Kids = append(n.Kids, gen)
	}
	p := answers(t, "many generators", alone(n), api.OK)
	if len(p.Funcs) != 1+count || !strings.HasPrefix(writeFunc(p.Funcs[count]), " 0+2/5 "+loop(count, 0, "PatAny", 2, "Cons(Const 1, 1)", 3)) {
		t.Error(len(p.Funcs))
	}
	for i, f := range p.Funcs[1:count] {
		if want := " 0+2/5 " + loop(i+1, 0, "PatAny", 2, "Call @"+num(i+2)+"(Const a, 1)", 3); writeFunc(f) != want {
			t.Fatalf("%d: %s", i+1, writeFunc(f))
		}
	}
	many := of(api.NodeModule)
	for i := range 2700 {
		f := alone(of(api.NodeInt)).Kids[0]
		f.Text = "f" + num(i)
		f.Kids[0].Kids[2].Kids[0] = api.Node{Kind: api.NodeName, Text: "f" + num(2699-i)}
		many.Kids = append(many.Kids, f)
	}
	p = answers(t, "many functions", many, api.OK)
	for i, f := range p.Funcs {
		if want := "f" + num(i) + " 0+0/0 " + clause("Tuple()", "PatTuple()", "Fun @"+num(2699-i)+"()"); writeFunc(f) != want {
			t.Fatal(i, writeFunc(f))
		}
	}
}

// R1: what has far more than it may ends soon.
func TestFarTooMany(t *testing.T) {
	binds := "f({" + times(7000, "#") + "}) -> {"
	for _, source := range []string{
		binds + times(600, "case 1 of # -> # end") + "}.",
		binds + times(600, "fun (#) -> # end") + "}.",
		binds + times(600, "[# || # <- #]") + "}.",
		"f() -> " + times(3000, "1 = 1") + ", 1.",
		"f() -> " + times(12000, "1") + ".",
	} {
		answers(t, source, parsed(t, source), api.ErrMany)
	}
}

// R4: two calls, in either order, know nothing of each other.
func TestCallsAreApart(t *testing.T) {
	great := parsed(t, "f() -> "+times(200, "1")+".")
	small := parsed(t, "f(X) -> [fun (Y) -> {X, Y} end || X <- X].")
	first, _ := core.Make(small)
	answers(t, "great", great, api.ErrMany)
	second, err := core.Make(small)
	if err != api.OK || !reflect.DeepEqual(first, second) {
		t.Error(err)
	}
	answers(t, "great", great, api.ErrMany)
}
