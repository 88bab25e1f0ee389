package parse_test

import (
	"fmt"
	"slices"
	"strings"
	"testing"

	"pigeonhole/api"
	"pigeonhole/node"
	"pigeonhole/parse"
)

func parent(kind api.NodeKind, kids ...api.Node) api.Node {
	return api.Node{Kind: kind, Kids: kids}
}

// zero says whether n is nothing at all.
func zero(n api.Node) bool {
	return n.Kind == 0 && n.Text == "" && n.Num == 0 && n.At == 0 && len(n.Kids) == 0
}

// equal says whether two trees are the same, places and all.
func equal(a, b api.Node) bool {
	return a.Kind == b.Kind && a.Text == b.Text && a.Num == b.Num && a.At == b.At && slices.EqualFunc(a.Kids, b.Kids, equal)
}

// told is a tree as a text: what each node is, @, its place, its kids in brackets.
func told(n api.Node) string {
	names := []string{
		api.NodeTuple: "tuple", api.NodeList: "list", api.NodeMatch: "match", api.NodeCall: "call", api.NodeFun: "fun", api.NodeName: "name ",
		api.NodeCase: "case", api.NodeIf: "if", api.NodeReceive: "receive", api.NodeAfter: "after", api.NodeTry: "try", api.NodeComp: "comp", api.NodeGen: "gen",
		api.NodeBlock: "block", api.NodeClause: "clause", api.NodeFunction: "function ", api.NodeModule: "module",
	}
	var s string
	switch n.Kind {
	case api.NodeInt, api.NodeVar:
		s = n.Text
	case api.NodeAtom:
		s = "'" + n.Text
	case api.NodeText:
		s = `"` + n.Text
	case api.NodeOp:
		s = fmt.Sprint(n.Text, len(n.Kids))
	default:
		s = names[n.Kind] + n.Text
	}
	if n.Num != 0 {
		s += fmt.Sprint("/", n.Num)
	}
	s += fmt.Sprint("@", n.At)
	if len(n.Kids) == 0 {
		return s
	}
	var kids []string
	for _, kid := range n.Kids {
		kids = append(kids, told(kid))
	}
	return s + "(" + strings.Join(kids, " ") + ")"
}

// parsed asks that s is that tree.
func parsed(t *testing.T, kind kindOfSource, s, want string) {
	t.Helper()
	n, fault := kind.parse(s)
	if got := told(n); fault != (api.Fault{}) || got != want {
		t.Errorf("%.80s: %v, %.500s, not %.500s", s, fault, got, want)
	}
	if !node.Right(n) {
		t.Errorf("%.80s: not right", s)
	}
}

// faulty asks that s has that fault, and that nothing else is told.
func faulty(t *testing.T, kind kindOfSource, s string, err api.Errno, at int) {
	t.Helper()
	n, fault := kind.parse(s)
	if want := (api.Fault{Err: err, At: at}); fault != want || !zero(n) {
		t.Errorf("%.80s: %v, %.80s, not %v", s, fault, told(n), want)
	}
}

func shaped(t *testing.T, s string) api.Node {
	t.Helper()
	n, fault := parse.Expr(s)
	if fault != (api.Fault{}) {
		t.Errorf("%.80s: %v", s, fault)
	}
	return n
}

// same asks that two items are the same but for places.
func same(t *testing.T, a, b string) {
	t.Helper()
	if x, y := shaped(t, a), shaped(t, b); !node.Same(x, y) {
		t.Errorf("%s: %s; %s: %s", a, told(x), b, told(y))
	}
}

// P5.1: each part of an item, with its places.
func TestItems(t *testing.T) {
	for s, want := range map[string]string{
		"1":     "1@0",
		" 007 ": "007@1",
		"a":     "'a@0",
		"'a b'": "'a b@0",
		"'if'":  "'if@0",
		"X":     "X@0",
		"_":     "_@0",
		`"a\n"`: "\"a\n@0",
		`""`:    `"@0`,

		"{}":        "tuple@0",
		"{ a }":     "tuple@0('a@2)",
		"{a, {}}":   "tuple@0('a@1 tuple@4)",
		"[]":        "list@0",
		"[a]":       "list@0('a@1)",
		"[a, b]":    "list@0('a@1 'b@4)",
		"[a | b]":   "list/1@0('a@1 'b@5)",
		"[a,b|[]]":  "list/1@0('a@1 'b@3 list@5)",
		"[a || b]":  "comp@0('a@1 'b@6)",
		" {(a), b}": "tuple@1('a@3 'b@7)",

		"[X || X <- a, b, {Y} <- c]": "comp@0(X@1 gen@6(X@6 'a@11) 'b@14 gen@17(tuple@17(Y@18) 'c@24))",
		"[a || (X) <- (b), (c)]":     "comp@0('a@1 gen@6(X@7 'b@14) 'c@19)",
		"[a = b || c = d <- e = f]":  "comp@0(match@1('a@1 'b@5) gen@10(match@10('c@10 'd@14) match@19('e@19 'f@23)))",

		"f()":         "call@0('f@0)",
		"f(a, b)":     "call@0('f@0 'a@2 'b@5)",
		"f(a)(b)()":   "call@0(call@0(call@0('f@0 'a@2) 'b@5))",
		"(f)(a)":      "call@0('f@1 'a@4)",
		"((f)(a))(b)": "call@0(call@1('f@2 'a@5) 'b@9)",
		"1(2)":        "call@0(1@0 2@2)",
		"{}(a)":       "call@0(tuple@0 'a@3)",

		"fun f/2":       "name f/2@0",
		"fun f/0":       "name f@0",
		"fun 'a b'/1":   "name a b/1@0",
		"fun f / 2 (X)": "call@0(name f/2@0 X@11)",

		"begin a end":              "block@0('a@6)",
		"begin (a), b end":         "block@0('a@7 'b@11)",
		"(begin a end)":            "block@1('a@7)",
		"begin a end()":            "call@0(block@0('a@6))",
		"begin begin a end, b end": "block@0(block@6('a@12) 'b@19)",
	} {
		parsed(t, ofItems, s, want)
	}
}

// P5.1: items of clauses, with their places.
func TestClauses(t *testing.T) {
	for s, want := range map[string]string{
		"fun () -> a end":                      "fun@0(clause@4(block@4 block@4 block@10('a@10)))",
		"fun (X, (Y)) -> a, b; ((1)) -> c end": "fun@0(clause@4(block@4(X@5 Y@9) block@4 block@16('a@16 'b@19)) clause@22(block@22(1@24) block@22 block@31('c@31)))",
		"fun (X) when a, b; (c) -> (d) end":    "fun@0(clause@4(block@4(X@5) block@4(block@13('a@13 'b@16) block@19('c@20)) block@26('d@27)))",
		"fun () -> a end(1)":                   "call@0(fun@0(clause@4(block@4 block@4 block@10('a@10))) 1@16)",

		"case a of b -> c end":                    "case@0('a@5 clause@10(block@10('b@10) block@10 block@15('c@15)))",
		"case (a) of (b) when c -> d; e -> f end": "case@0('a@6 clause@12(block@12('b@13) block@12(block@21('c@21)) block@26('d@26)) clause@29(block@29('e@29) block@29 block@34('f@34)))",
		"case a = b of c = d -> e end":            "case@0(match@5('a@5 'b@9) clause@14(block@14(match@14('c@14 'd@18)) block@14 block@23('e@23)))",

		"if a -> b end":                    "if@0(clause@3(block@3 block@3(block@3('a@3)) block@8('b@8)))",
		"if (a), b; c -> d; e -> f, g end": "if@0(clause@3(block@3 block@3(block@3('a@4 'b@8) block@11('c@11)) block@16('d@16)) clause@19(block@19 block@19(block@19('e@19)) block@24('f@24 'g@27)))",

		"receive a -> b end":                        "receive@0(clause@8(block@8('a@8) block@8 block@13('b@13)))",
		"receive a -> b; X when c -> d end":         "receive@0(clause@8(block@8('a@8) block@8 block@13('b@13)) clause@16(block@16(X@16) block@16(block@23('c@23)) block@28('d@28)))",
		"receive after 5 -> a, b end":               "receive/1@0(after@8(5@14 block@19('a@19 'b@22)))",
		"receive (a) -> b after (X + 1) -> (c) end": "receive/1@0(clause@8(block@8('a@9) block@8 block@15('b@15)) after@17(+2@24(X@24 1@28) block@34('c@35)))",
		"receive a -> b; c -> d after 0 -> e end":   "receive/1@0(clause@8(block@8('a@8) block@8 block@13('b@13)) clause@16(block@16('c@16) block@16 block@21('d@21)) after@23(0@29 block@34('e@34)))",

		"try a catch b : c -> d end":                  "try@0(block@4('a@4) clause@12(block@12(tuple@12('b@12 'c@16)) block@12 block@21('d@21)))",
		"try (a), b catch E : (X) when c; d -> e end": "try@0(block@4('a@5 'b@9) clause@17(block@17(tuple@17(E@17 X@22)) block@17(block@30('c@30) block@33('d@33)) block@38('e@38)))",
		"try a catch b:c=d->e; _:_->f end":            "try@0(block@4('a@4) clause@12(block@12(tuple@12('b@12 match@14('c@14 'd@16))) block@12 block@19('e@19)) clause@22(block@22(tuple@22(_@22 _@24)) block@22 block@27('f@27)))",
	} {
		parsed(t, ofItems, s, want)
	}
}

// P5.1
func TestModules(t *testing.T) {
	for s, want := range map[string]string{
		"":                     "module@0",
		" % nothing\n":         "module@0",
		"f() -> a.":            "module@0(function f@0(clause@0(block@0 block@0 block@7('a@7))))",
		" f(X, Y) -> (a), b. ": "module@0(function f/2@1(clause@1(block@1(X@3 Y@6) block@1 block@12('a@13 'b@17))))",
		"f(X) when (X) -> a; f() -> b.\n'g h'() -> c.": "module@0(function f/1@0(clause@0(block@0(X@2) block@0(block@10(X@11)) block@17('a@17)) clause@20(block@20 block@20 block@27('b@27)))" +
			" function g h@30(clause@30(block@30 block@30 block@41('c@41))))",
		"f(X) when X > 1; X == a -> X; f(_) -> [H || {H, _} <- g(1)].": "module@0(function f/1@0(clause@0(block@0(X@2) block@0(block@10(>2@10(X@10 1@14)) block@17(==2@17(X@17 'a@22))) block@27(X@27))" +
			" clause@30(block@30(_@32) block@30 block@38(comp@38(H@39 gen@44(tuple@44(H@45 _@48) call@54('g@54 1@56)))))))",
		"f() -> a. f() -> b.":    "module@0(function f@0(clause@0(block@0 block@0 block@7('a@7))) function f@10(clause@10(block@10 block@10 block@17('b@17))))",
		"f() -> a; 'f'(1) -> b.": "module@0(function f@0(clause@0(block@0 block@0 block@7('a@7)) clause@10(block@10(1@14) block@10 block@20('b@20))))",
		"''() -> a; ''() -> b.":  "module@0(function @0(clause@0(block@0 block@0 block@8('a@8)) clause@11(block@11 block@11 block@19('b@19))))",
		"f() -> if a -> b; c -> d end; f() -> e.": "module@0(function f@0(clause@0(block@0 block@0 block@7(if@7(clause@10(block@10 block@10(block@10('a@10)) block@15('b@15)) clause@18(block@18 block@18(block@18('c@18)) block@23('d@23)))))" +
			" clause@30(block@30 block@30 block@37('e@37))))",
	} {
		parsed(t, ofModules, s, want)
	}
}

// P5.1: an item begins with the brackets around a part of it, not with those around the whole.
func TestPlacesOfBrackets(t *testing.T) {
	for s, want := range map[string]string{
		" (a + b) * c":    "*2@1(+2@2('a@2 'b@6) 'c@11)",
		"(a)":             "'a@1",
		"( ( a ) )":       "'a@4",
		"((a) + b)":       "+2@1('a@2 'b@7)",
		"((a + b))":       "+2@2('a@2 'b@6)",
		"((a) = (b))":     "match@1('a@2 'b@8)",
		"(a)(b)":          "call@0('a@1 'b@4)",
		"((a)(b))":        "call@1('a@2 'b@5)",
		"-(a)":            "-1@0('a@2)",
		"(-(a))":          "-1@1('a@3)",
		"(a) + (b) + (c)": "+2@0(+2@0('a@1 'b@7) 'c@13)",
		"(a) ++ (b) ++ c": "++2@0('a@1 ++2@7('b@8 'c@14))",
		"((a) ! (b)) ! c": "!2@0(!2@1('a@2 'b@8) 'c@14)",
		"a * ((b) + c)":   "*2@0('a@0 +2@5('b@6 'c@11))",
		"({})":            "tuple@1",
		"(fun f/1)":       "name f/1@1",
		"((f)())()":       "call@0(call@1('f@2))",
		"(a) == (b)":      "==2@0('a@1 'b@8)",
	} {
		parsed(t, ofItems, s, want)
	}
}

// levels are the operators between two items, those that bind alike in one row, the weakest first.
var levels = []struct {
	goes string // from the left, from the right, or never together
	row  string
}{
	{"right", "="}, {"right", "!"}, {"left", "orelse"}, {"left", "andalso"}, {"never", "== /= =:= =/= < =< > >="},
	{"right", "++ --"}, {"left", "+ - or xor"}, {"left", "* div rem and"},
}

// P5.1: each two operators, one behind the other.
func TestOperators(t *testing.T) {
	for i, first := range levels {
		for k, second := range levels {
			for _, x := range strings.Fields(first.row) {
				for _, y := range strings.Fields(second.row) {
					s := "a " + x + " b " + y + " c"
					left, right := "(a "+x+" b) "+y+" c", "a "+x+" (b "+y+" c)"
					switch {
					case i > k || i == k && first.goes == "left":
						same(t, s, left)
					case i < k || first.goes == "right":
						same(t, s, right)
					default:
						faulty(t, ofItems, s, api.ErrSyntax, len("a "+x+" b "))
					}
				}
			}
		}
	}
}

// P5.1: what stands in the node of each operator.
func TestOperatorsOne(t *testing.T) {
	for _, level := range levels[1:] {
		for _, x := range strings.Fields(level.row) {
			at := len("a " + x + " ")
			parsed(t, ofItems, "a "+x+" X", fmt.Sprintf("%s2@0('a@0 X@%d)", x, at))
			parsed(t, ofItems, "- a "+x+" not X", fmt.Sprintf("%s2@0(-1@0('a@2) not1@%d(X@%d))", x, at+2, at+6))
			if x != "-" && x != "+" {
				faulty(t, ofItems, x+" a", api.ErrSyntax, 0)
			}
			faulty(t, ofItems, "a "+x, api.ErrSyntax, len("a "+x))
			faulty(t, ofItems, "a "+x+" * b", api.ErrSyntax, at)
		}
	}
	for _, x := range []string{"-", "+", "not"} {
		parsed(t, ofItems, x+" X", fmt.Sprintf("%s1@0(X@%d)", x, len(x)+1))
		parsed(t, ofItems, x+" "+x+" f(X)", fmt.Sprintf("%s1@0(%s1@%d(call@%d('f@%d X@%d)))", x, x, len(x)+1, 2*len(x)+2, 2*len(x)+2, 2*len(x)+4))
		faulty(t, ofItems, x, api.ErrSyntax, len(x))
	}
	parsed(t, ofItems, "a = X", "match@0('a@0 X@4)")
	parsed(t, ofItems, "- 1", "-1@0(1@2)")
	parsed(t, ofItems, "1-2", "-2@0(1@0 2@2)")
	parsed(t, ofItems, "1 - -2", "-2@0(1@0 -1@4(2@5))")
	faulty(t, ofItems, "1 --2 --", api.ErrSyntax, 8)
}
