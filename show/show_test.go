package show_test

import (
	"fmt"
	"strings"
	"testing"

	"pigeonhole/api"
	"pigeonhole/node"
	"pigeonhole/parse"
	"pigeonhole/show"
)

func of(kind api.NodeKind, kids ...api.Node) api.Node { return api.Node{Kind: kind, Kids: kids} }

func said(kind api.NodeKind, text string, kids ...api.Node) api.Node {
	return api.Node{Kind: kind, Text: text, Kids: kids}
}

func numbered(num int, n api.Node) api.Node {
	n.Num = num
	return n
}

func whole(digits string) api.Node { return said(api.NodeInt, digits) }

func atom(name string) api.Node { return said(api.NodeAtom, name) }

func variable(name string) api.Node { return said(api.NodeVar, name) }

func text(s string) api.Node { return said(api.NodeText, s) }

func tuple(items ...api.Node) api.Node { return of(api.NodeTuple, items...) }

func list(items ...api.Node) api.Node { return of(api.NodeList, items...) }

func tailed(items ...api.Node) api.Node { return numbered(1, list(items...)) }

func op(sign string, items ...api.Node) api.Node { return said(api.NodeOp, sign, items...) }

func match(items ...api.Node) api.Node { return of(api.NodeMatch, items...) }

func call(items ...api.Node) api.Node { return of(api.NodeCall, items...) }

func named(name string, arity int) api.Node { return numbered(arity, said(api.NodeName, name)) }

func block(items ...api.Node) api.Node { return of(api.NodeBlock, items...) }

// row is patterns or guards.
func row(items ...api.Node) []api.Node { return items }

// clause is one of these patterns, these guards and this body.
func clause(patterns, guards, body []api.Node) api.Node {
	return of(api.NodeClause, block(patterns...), block(guards...), block(body...))
}

func fun(clauses ...api.Node) api.Node { return of(api.NodeFun, clauses...) }

func choice(kids ...api.Node) api.Node { return of(api.NodeCase, kids...) }

func iffy(clauses ...api.Node) api.Node { return of(api.NodeIf, clauses...) }

func receive(clauses ...api.Node) api.Node { return of(api.NodeReceive, clauses...) }

func after(time api.Node, items ...api.Node) api.Node {
	return of(api.NodeAfter, time, block(items...))
}

// timed is a receive whose last kid is an after.
func timed(kids ...api.Node) api.Node { return numbered(1, receive(kids...)) }

func try(kids ...api.Node) api.Node { return of(api.NodeTry, kids...) }

func comp(kids ...api.Node) api.Node { return of(api.NodeComp, kids...) }

func gen(pattern, item api.Node) api.Node { return of(api.NodeGen, pattern, item) }

func function(name string, clauses ...api.Node) api.Node {
	return numbered(len(clauses[0].Kids[0].Kids), said(api.NodeFunction, name, clauses...))
}

func module(functions ...api.Node) api.Node { return of(api.NodeModule, functions...) }

var (
	a, b, c, d, e = atom("a"), atom("b"), atom("c"), atom("d"), atom("e")
	x, y          = variable("X"), variable("Y")
	one           = whole("1")
)

// shown is the text of an item or a module, which the other call has none for.
func shown(t *testing.T, n api.Node) string {
	t.Helper()
	right, wrong := show.Expr, show.Module
	if n.Kind == api.NodeModule {
		right, wrong = wrong, right
	}
	s, err := right(n)
	if err != api.OK {
		t.Errorf("%v: %v", n, err)
	}
	if s, err := wrong(n); s != "" || err != api.ErrShape {
		t.Errorf("%v: %q, %v of the other call", n, s, err)
	}
	return s
}

// is asks that n is shown as s, and that s is parsed as n.
func is(t *testing.T, n api.Node, s string) {
	t.Helper()
	if got := shown(t, n); got != s {
		t.Errorf("%q, not %q", got, s)
	}
	again(t, n, s)
}

// again asks that s is parsed as n, if it is no longer than a source may be.
func again(t *testing.T, n api.Node, s string) {
	t.Helper()
	read := parse.Expr
	if n.Kind == api.NodeModule {
		read = parse.Module
	}
	back, fault := read(s)
	switch {
	case len(s) > api.MaxSource:
		if fault.Err != api.ErrLong {
			t.Errorf("%d bytes: %v", len(s), fault)
		}
	case fault != api.Fault{} || !node.Same(back, n):
		t.Errorf("%q: %v, parsed as something else", s, fault)
	}
}

// none asks that neither call has a text for n.
func none(t *testing.T, what string, n api.Node) {
	t.Helper()
	s, err := show.Expr(n)
	u, errOfModule := show.Module(n)
	if s != "" || u != "" || err != api.ErrShape || errOfModule != api.ErrShape {
		t.Errorf("%s: %q, %v; %q, %v", what, s, err, u, errOfModule)
	}
}

// texted is a tree and its text.
type texted struct {
	n api.Node
	s string
}

// The chapter's examples.
func TestExamples(t *testing.T) {
	is(t, op("*", op("+", one, whole("2")), x), "(1 + 2) * X")
	is(t, op("-", a, op("-", b, c)), "a - (b - c)")
	is(t, op("++", op("++", a, b), c), "(a ++ b) ++ c")
	is(t, op("-", op("-", x)), "- -X")
	is(t, op("-", op("+", a, b)), "-(a + b)")
	is(t, call(fun(clause(nil, nil, row(a))), one), "fun () -> a end(1)")
	is(t, call(op("+", a, b)), "(a + b)()")
	is(t, match(match(variable("A"), variable("B")), c), "(A = B) = c")
}

// P6.1: items without others in them.
func TestLeaves(t *testing.T) {
	for _, digits := range []string{"0", "7", "007", "18446744073709551616", strings.Repeat("9", 400)} {
		is(t, whole(digits), digits)
	}
	for _, name := range []string{"X", "_", "_x", "Xy_@9", "_@", "A" + strings.Repeat("a", 39)} {
		is(t, variable(name), name)
	}
	for arity, want := range map[int]string{0: "fun f/0", 9: "fun f/9", 10: "fun f/10", 255: "fun f/255"} {
		is(t, named("f", arity), want)
	}
	is(t, named("A", 2), "fun 'A'/2")
	is(t, named("", 0), "fun ''/0")
	is(t, named("end", 1), "fun 'end'/1")
}

// words are the reserved ones.
const words = "after and andalso begin case div end fun if not of or orelse receive rem try catch when xor"

// P6.1: atoms that are plain, and those that are not, wherever a name stands.
func TestAtoms(t *testing.T) {
	for name, want := range map[string]string{
		"a": "a", "aZ_@09": "aZ_@09", "ifs": "ifs", "an": "an", "true": "true", "error": "error", strings.Repeat("a", 40): strings.Repeat("a", 40),
		"": "''", "A": "'A'", "_a": "'_a'", "@a": "'@a'", "1": "'1'", "a b": "'a b'", "a-b": "'a-b'", "f/1": "'f/1'", "'": `'\''`, `"`: `'"'`, `\`: `'\\'`, "\n": `'\n'`, "\t": `'\x09'`,
		"\x00\x1f \x7e\x7f\x80\xff": `'\x00\x1f ~\x7f\x80\xff'`, "é": `'\xc3\xa9'`, strings.Repeat("\xff", 40): "'" + strings.Repeat(`\xff`, 40) + "'",
	} {
		asName(t, name, want)
	}
	for _, word := range strings.Fields(words) {
		asName(t, word, "'"+word+"'")
		asName(t, word+"s", word+"s")
	}
	for i := range 256 {
		asName(t, string([]byte{byte(i)}), quotedUnlessPlain(byte(i)))
	}
}

// quotedUnlessPlain is an atom of one byte.
func quotedUnlessPlain(c byte) string {
	switch {
	case 'a' <= c && c <= 'z':
		return string([]byte{c})
	case c == '\'':
		return `'\''`
	default:
		return "'" + between(c) + "'"
	}
}

// between is a byte that is no quote, as it stands in quotes.
func between(c byte) string {
	switch {
	case c == '\\':
		return `\\`
	case c == 10:
		return `\n`
	case c < 32 || c > 126:
		return fmt.Sprintf(`\x%02x`, c)
	default:
		return string([]byte{c})
	}
}

// asName asks for a name's text in all places that a name may have.
func asName(t *testing.T, name, want string) {
	t.Helper()
	is(t, atom(name), want)
	is(t, named(name, 3), "fun "+want+"/3")
	is(t, call(atom(name), atom(name)), want+"("+want+")")
	is(t, op("-", atom(name), atom(name)), want+" - "+want)
	is(t, try(block(a), clause(row(tuple(atom(name), x)), nil, row(b))), "try a catch "+want+" : X -> b end")
	is(t, module(function(name, clause(nil, nil, row(atom(name))))), want+"() -> "+want+".\n")
}

// P6.1
func TestTexts(t *testing.T) {
	for s, want := range map[string]string{
		"": `""`, "ab": `"ab"`, "a b": `"a b"`, "if": `"if"`, `"`: `"\""`, `\`: `"\\"`, "'": `"'"`, "\n": `"\n"`, "\t": `"\x09"`, "\r": `"\x0d"`, `\n`: `"\\n"`, `\x00`: `"\\x00"`, "%": `"%"`,
		"q\"\x00\n": `"q\"\x00\n"`, "\x1f \x7e\x7f\x80\xff": `"\x1f ~\x7f\x80\xff"`, "\x0a0": `"\n0"`, "\x000": `"\x000"`, "é": `"\xc3\xa9"`,
		strings.Repeat("a", 400): `"` + strings.Repeat("a", 400) + `"`, strings.Repeat("\xab", 400): `"` + strings.Repeat(`\xab`, 400) + `"`,
	} {
		is(t, text(s), want)
	}
	for i := range 256 {
		want := between(byte(i))
		if i == '"' {
			want = `\"`
		}
		is(t, text(string([]byte{byte(i)})), `"`+want+`"`)
		is(t, tuple(text(string([]byte{byte(i), byte(i)})), text("a"+string([]byte{byte(i)})+"0")), `{"`+want+want+`", "a`+want+`0"}`)
	}
}

// P6.1: tuples, lists, calls, lists of generators.
func TestRows(t *testing.T) {
	is(t, tuple(), "{}")
	is(t, tuple(a), "{a}")
	is(t, tuple(a, x, one), "{a, X, 1}")
	is(t, tuple(tuple(), tuple(tuple(a))), "{{}, {{a}}}")
	is(t, list(), "[]")
	is(t, list(a), "[a]")
	is(t, list(a, b, c), "[a, b, c]")
	is(t, tailed(a, b), "[a | b]")
	is(t, tailed(a, b, c), "[a, b | c]")
	is(t, tailed(list(), tailed(a, list())), "[[] | [a | []]]")
	is(t, call(a), "a()")
	is(t, call(a, b), "a(b)")
	is(t, call(a, b, x, one), "a(b, X, 1)")
	is(t, comp(x, a), "[X || a]")
	is(t, comp(x, gen(x, a)), "[X || X <- a]")
	is(t, comp(tuple(x, y), gen(x, call(a)), b, gen(tuple(y), c), d), "[{X, Y} || X <- a(), b, {Y} <- c, d]")
	is(t, comp(comp(x, gen(x, y)), gen(y, comp(a, b))), "[[X || X <- Y] || Y <- [a || b]]")
}

// P6.1: brackets are never there, where nothing is said: in rows, bodies, patterns, guards, ahead of and behind words and arrows.
func TestNoBrackets(t *testing.T) {
	for _, weak := range []texted{
		{match(a, b), "a = b"}, {op("!", a, b), "a ! b"}, {op("orelse", a, b), "a orelse b"}, {op("<", a, b), "a < b"}, {op("rem", a, b), "a rem b"}, {op("not", a), "not a"}, {op("-", a), "-a"},
		{block(match(a, b), c), "begin a = b, c end"}, {call(match(a, b), c), "(a = b)(c)"}, {tuple(match(a, b), c), "{a = b, c}"}, {comp(x, gen(x, match(a, b))), "[X || X <- a = b]"},
	} {
		w := weak.n
		within := clause(row(w), row(block(w, w), block(w)), row(w, w))
		const withinShown = "W when W, W; W -> W, W"
		for _, around := range []texted{
			{tuple(w, w), "{W, W}"}, {list(w, w), "[W, W]"}, {tailed(w, w, w), "[W, W | W]"}, {call(a, w, w), "a(W, W)"}, {comp(w, gen(w, w), w), "[W || W <- W, W]"}, {block(w, w), "begin W, W end"},
			{choice(w, within), "case W of " + withinShown + " end"},
			{receive(within, within), "receive " + withinShown + "; " + withinShown + " end"},
			{timed(within, after(w, w, w)), "receive " + withinShown + " after W -> W, W end"},
			{iffy(clause(nil, row(block(w, w), block(w)), row(w, w))), "if W, W; W -> W, W end"},
			{fun(clause(row(w, w), row(block(w)), row(w))), "fun (W, W) when W -> W end"},
			{try(block(w, w), clause(row(tuple(a, w)), row(block(w)), row(w))), "try W, W catch a : W when W -> W end"},
			{module(function("f", clause(row(w, w), row(block(w, w)), row(w, w)))), "f(W, W) when W, W -> W, W.\n"},
		} {
			is(t, around.n, strings.ReplaceAll(around.s, "W", weak.s))
		}
	}
}

// P6.1: what has clauses, with guards and without.
func TestClauses(t *testing.T) {
	plain := clause(row(x), nil, row(a))
	guarded := clause(row(y), row(block(b), block(c, d)), row(a, e))
	is(t, choice(a, plain), "case a of X -> a end")
	is(t, choice(a, guarded, plain), "case a of Y when b; c, d -> a, e; X -> a end")
	is(t, choice(a, plain, clause(row(one), row(block(a)), row(b)), plain), "case a of X -> a; 1 when a -> b; X -> a end")
	is(t, iffy(clause(nil, row(block(a)), row(b))), "if a -> b end")
	is(t, iffy(clause(nil, row(block(a), block(b)), row(c)), clause(nil, row(block(d, a)), row(e, b))), "if a; b -> c; d, a -> e, b end")
	is(t, receive(plain), "receive X -> a end")
	is(t, receive(guarded, plain), "receive Y when b; c, d -> a, e; X -> a end")
	is(t, timed(after(one, a)), "receive after 1 -> a end")
	is(t, timed(after(one, a, b)), "receive after 1 -> a, b end")
	is(t, timed(plain, after(one, c)), "receive X -> a after 1 -> c end")
	is(t, timed(plain, guarded, after(x, c, d)), "receive X -> a; Y when b; c, d -> a, e after X -> c, d end")
	is(t, fun(clause(nil, nil, row(a))), "fun () -> a end")
	is(t, fun(clause(row(x), nil, row(a))), "fun (X) -> a end")
	is(t, fun(clause(nil, row(block(a)), row(b))), "fun () when a -> b end")
	is(t, fun(clause(row(x, y), row(block(a), block(b, c)), row(d, e)), clause(nil, nil, row(a)), clause(row(variable("_")), nil, row(e, b))), "fun (X, Y) when a; b, c -> d, e; () -> a; (_) -> e, b end")
	is(t, try(block(a), clause(row(tuple(b, x)), nil, row(c))), "try a catch b : X -> c end")
	is(t, try(block(a, b), clause(row(tuple(atom("error"), x)), nil, row(c)), clause(row(tuple(variable("C"), variable("_"))), row(block(d), block(a, b)), row(e, a))), "try a, b catch error : X -> c; C : _ when d; a, b -> e, a end")
	is(t, try(block(a), clause(row(tuple(b, tuple(c, x))), nil, row(tuple(d, e)))), "try a catch b : {c, X} -> {d, e} end")
	is(t, block(a), "begin a end")
	is(t, block(a, b), "begin a, b end")
	is(t, block(block(a), block(b, block(c))), "begin begin a end, begin b, begin c end end end")
}

// closed is an item of each kind that needs no brackets anywhere.
func closed() []texted {
	return []texted{
		{one, "1"}, {x, "X"}, {atom("A"), "'A'"}, {text("t"), `"t"`}, {tuple(a), "{a}"}, {tailed(a, b), "[a | b]"}, {call(a, b), "a(b)"}, {comp(x, a), "[X || a]"},
		{named("f", 1), "fun f/1"}, {fun(clause(nil, nil, row(a))), "fun () -> a end"}, {choice(a, clause(row(x), nil, row(b))), "case a of X -> b end"}, {iffy(clause(nil, row(block(a)), row(b))), "if a -> b end"},
		{receive(clause(row(x), nil, row(a))), "receive X -> a end"}, {timed(after(one, a)), "receive after 1 -> a end"}, {try(block(a), clause(row(tuple(b, x)), nil, row(c))), "try a catch b : X -> c end"}, {block(a), "begin a end"},
	}
}

// P6.1: items with words around, within each other, with an operator between, and called.
func TestWordsWithin(t *testing.T) {
	for _, first := range closed() {
		n, s := first.n, first.s
		is(t, n, s)
		is(t, call(n), s+"()")
		is(t, call(call(n, n), n), s+"("+s+")("+s+")")
		is(t, op("-", n), "-"+s)
		is(t, op("not", n), "not "+s)
		for _, second := range closed() {
			n2, s2 := second.n, second.s
			is(t, op("*", n, n2), s+" * "+s2)
			is(t, match(n, n2), s+" = "+s2)
			is(t, call(n, n2), s+"("+s2+")")
			is(t, choice(n, clause(row(n2), row(block(n), block(n2, n)), row(n, n2))), "case "+s+" of "+s2+" when "+s+"; "+s2+", "+s+" -> "+s+", "+s2+" end")
			is(t, timed(clause(row(n), nil, row(n2)), after(n, n2)), "receive "+s+" -> "+s2+" after "+s+" -> "+s2+" end")
		}
	}
}

// P6.1
func TestModules(t *testing.T) {
	is(t, module(), "")
	is(t, module(function("f", clause(nil, nil, row(a)))), "f() -> a.\n")
	is(t, module(function("f", clause(row(x), row(block(x)), row(a)), clause(row(variable("_")), nil, row(b))), function("g h", clause(nil, nil, row(c, d)))), "f(X) when X -> a; f(_) -> b.\n'g h'() -> c, d.\n")
	is(t, module(function("if", clause(row(x, y), row(block(a, b), block(c)), row(one)), clause(nil, nil, row(text("t"))), clause(row(a), nil, row(d)))), "'if'(X, Y) when a, b; c -> 1; 'if'() -> \"t\"; 'if'(a) -> d.\n")
	is(t, module(function("f", clause(nil, nil, row(a))), function("f", clause(nil, nil, row(b))), function("f", clause(row(x), nil, row(x)))), "f() -> a.\nf() -> b.\nf(X) -> X.\n")
	is(t, module(function("f", clause(row(match(x, tuple(a))), nil, row(match(x, op("+", x, one)), fun(clause(nil, nil, row(a))))))), "f(X = {a}) -> X = X + 1, fun () -> a end.\n")
}
