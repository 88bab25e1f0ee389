package core_test

import (
	"strings"
	"testing"
)

// P8.5
func TestBodies(t *testing.T) {
	becomes(t, "f() -> 1.", "Const 1")
	becomes(t, "f() -> 1, 2.", "Let(Const 1; 0; Const 2)")
	becomes(t, "f() -> 1, 2, 3.", "Let(Const 1; 0; Let(Const 2; 1; Const 3))")
	becomes(t, "f() -> X = 1.", "Case(Const 1; PatBoth(PatBind 0, PatBind 1), true -> 0; PatBind 2, true -> Fail(badmatch, 2))")
	becomes(t, "f() -> _ = 1.", "Case(Const 1; PatBoth(PatBind 0, PatAny), true -> 0; PatBind 1, true -> Fail(badmatch, 1))")
	becomes(t, "f(X) -> X = 1.", "Case(Const 1; PatBoth(PatBind 2, PatSame 1), true -> 2; PatBind 3, true -> Fail(badmatch, 3))")
	becomes(t, "f(X) -> {Y, X, Z} = X.", "Case(1; PatBoth(PatBind 2, PatTuple(PatBind 3, PatSame 1, PatBind 4)), true -> 2; PatBind 5, true -> Fail(badmatch, 5))")
	becomes(t, "f() -> X = 1, X.", "Case(Const 1; PatBind 0, true -> 0; PatBind 1, true -> Fail(badmatch, 1))")
	becomes(t, "f() -> 1 = 2, 3 = 4, 5.",
		"Case(Const 2; PatConst 1, true -> Case(Const 4; PatConst 3, true -> Const 5; PatBind 0, true -> Fail(badmatch, 0)); PatBind 1, true -> Fail(badmatch, 1))")
	becomes(t, "f() -> X = 1, X, {Y} = X, Y = 2.",
		"Case(Const 1; PatBind 0, true -> Let(0; 1; Case(0; PatTuple(PatBind 2), true -> "+
			"Case(Const 2; PatBoth(PatBind 3, PatSame 2), true -> 3; PatBind 4, true -> Fail(badmatch, 4)); PatBind 5, true -> Fail(badmatch, 5))); PatBind 6, true -> Fail(badmatch, 6))")
	becomes(t, "f() -> X = 1, Y = 2, {X, Y}.",
		"Case(Const 1; PatBind 0, true -> Case(Const 2; PatBind 1, true -> Tuple(0, 1); PatBind 2, true -> Fail(badmatch, 2)); PatBind 3, true -> Fail(badmatch, 3))")
	becomes(t, "f(X) -> X, Y = X, Y.", "Let(1; 2; Case(1; PatBind 3, true -> 3; PatBind 4, true -> Fail(badmatch, 4)))")
}

// P8.5: what is on the right side has its variables ahead of all, what stands in it is not in scope on the left.
func TestBodiesWithVariablesOfTheirItems(t *testing.T) {
	e := "begin Z = 1 end"
	one := func(x int) string {
		return "Case(Const 1; PatBoth(PatBind " + num(x) + ", PatBind " + num(x+1) + "), true -> " + num(x) + "; PatBind " + num(x+2) + ", true -> Fail(badmatch, " + num(x+2) + "))"
	}
	becomes(t, "f() -> "+e+", "+e+", a.", "Let("+one(0)+"; 3; Let("+one(4)+"; 7; Const a))")
	becomes(t, "f() -> X = "+e+".", "Case("+one(0)+"; PatBoth(PatBind 3, PatBind 4), true -> 3; PatBind 5, true -> Fail(badmatch, 5))")
	becomes(t, "f() -> X = "+e+", Z = "+e+", Z.",
		"Case("+one(0)+"; PatBind 3, true -> Case("+one(4)+"; PatBind 7, true -> 7; PatBind 8, true -> Fail(badmatch, 8)); PatBind 9, true -> Fail(badmatch, 9))")
	becomes(t, "f() -> X = "+e+", "+e+".", "Case("+one(0)+"; PatBind 3, true -> "+one(4)+"; PatBind 7, true -> Fail(badmatch, 7))")
}

// P8.5: a match whose right side is a match.
func TestMatchesInARow(t *testing.T) {
	becomes(t, "f() -> X = Y = 1.", "Case(Const 1; PatBoth(PatBind 0, PatBoth(PatBind 1, PatBind 2)), true -> 0; PatBind 3, true -> Fail(badmatch, 3))")
	becomes(t, "f() -> X = Y = 1, {X, Y}.", "Case(Const 1; PatBoth(PatBind 0, PatBind 1), true -> Tuple(1, 0); PatBind 2, true -> Fail(badmatch, 2))")
	becomes(t, "f() -> X = {Y} = Z = 1, {X, Y, Z}.",
		"Case(Const 1; PatBoth(PatBoth(PatBind 0, PatTuple(PatBind 1)), PatBind 2), true -> Tuple(2, 1, 0); PatBind 3, true -> Fail(badmatch, 3))")
	becomes(t, "f() -> a = b = c = d = e.",
		"Case(Const e; PatBoth(PatBind 0, PatBoth(PatBoth(PatBoth(PatConst d, PatConst c), PatConst b), PatConst a)), true -> 0; PatBind 1, true -> Fail(badmatch, 1))")
	becomes(t, "f() -> X = X = {X, Y} = begin Z = 1 end, Y.",
		"Case(Case(Const 1; PatBoth(PatBind 0, PatBind 1), true -> 0; PatBind 2, true -> Fail(badmatch, 2))"+
			"; PatBoth(PatBoth(PatTuple(PatBind 3, PatBind 4), PatSame 3), PatSame 3), true -> 4; PatBind 5, true -> Fail(badmatch, 5))")
	becomes(t, "f() -> (X = 1) = 1.", "Case(Const 1; PatBoth(PatBind 0, PatBoth(PatBind 1, PatConst 1)), true -> 0; PatBind 2, true -> Fail(badmatch, 2))")
	becomes(t, "f() -> (X = Y) = Z = 1, X.", "Case(Const 1; PatBoth(PatBind 0, PatBoth(PatBind 1, PatBind 2)), true -> 1; PatBind 3, true -> Fail(badmatch, 3))")
}

// clause is the body of a function of one clause without guards.
func clause(subject, pattern, body string) string {
	return "Case(" + subject + "; " + pattern + ", true -> " + body + "; PatAny, true -> Fail(function_clause))"
}

// P8.4
func TestFuns(t *testing.T) {
	becomes(t, "f() -> fun () -> 1 end.", "Fun @1()", " 0+0/0 "+clause("Tuple()", "PatTuple()", "Const 1"))
	becomes(t, "f(X) -> fun (Y) -> Y end.", "Fun @1()", " 0+1/2 "+clause("0", "PatBind 1", "1"))
	becomes(t, "f(X) -> fun () -> X end.", "Fun @1(1)", " 1+0/1 "+clause("Tuple()", "PatTuple()", "0"))
	becomes(t, "f(X) -> fun (Y) -> {X, Y} end.", "Fun @1(1)", " 1+1/3 "+clause("1", "PatBind 2", "Tuple(0, 2)"))
	becomes(t, "f(X, Y) -> fun (Z, W) -> {Y, Z, W, X} end.", "Fun @1(2, 3)", " 2+2/6 "+clause("Tuple(2, 3)", "PatTuple(PatBind 4, PatBind 5)", "Tuple(1, 4, 5, 0)"))
	becomes(t, "f(X, Y) -> fun () -> Y end.", "Fun @1(3)", " 1+0/1 "+clause("Tuple()", "PatTuple()", "0"))
	becomes(t, "f(X, Y) -> {fun () -> Y end, fun (_) -> X end}.", "Tuple(Fun @1(3), Fun @2(2))", " 1+0/1 "+clause("Tuple()", "PatTuple()", "0"), " 1+1/2 "+clause("1", "PatAny", "0"))
	becomes(t, "f(X) -> fun (1) -> X; (X) -> X; (Y) when Y == X -> Y end.", "Fun @1(1)",
		" 1+1/4 Case(1; PatConst 1, true -> 0; PatBind 2, true -> 2; PatBind 3, GuardAny(GuardAll(Bif ==(3, 0))) -> 3; PatAny, true -> Fail(function_clause))")
	becomes(t, "f(X) -> fun (Y) -> Z = {X, Y}, Z end.", "Fun @1(1)",
		" 1+1/5 "+clause("1", "PatBind 2", "Case(Tuple(0, 2); PatBind 3, true -> 3; PatBind 4, true -> Fail(badmatch, 4))"))
}

// P8.4: what stands in a fun by a name in scope is captured, whatever it does there; in its heads such names are bound anew.
func TestFunsThatBindAnew(t *testing.T) {
	becomes(t, "f(X) -> fun (X) -> X end.", "Fun @1(1)", " 1+1/3 "+clause("1", "PatBind 2", "2"))
	becomes(t, "f(X) -> fun (X, X, {Y, X}) -> X end.", "Fun @1(1)", " 1+3/6 "+clause("Tuple(1, 2, 3)", "PatTuple(PatBind 4, PatSame 4, PatTuple(PatBind 5, PatSame 4))", "4"))
	becomes(t, "f(X) -> fun () -> X = 1 end.", "Fun @1(1)",
		" 1+0/3 "+clause("Tuple()", "PatTuple()", "Case(Const 1; PatBoth(PatBind 1, PatSame 0), true -> 1; PatBind 2, true -> Fail(badmatch, 2))"))
	becomes(t, "f(X, Y) -> fun (Y) -> case Y of X -> Y end end.", "Fun @1(2, 3)",
		" 2+1/5 "+clause("2", "PatBind 3", "Case(3; PatSame 0, true -> 3; PatBind 4, true -> Fail(case_clause, 4))"))
	becomes(t, "f(X) -> fun () -> fun (X) -> 1 end end.", "Fun @1(1)", " 1+0/1 "+clause("Tuple()", "PatTuple()", "Fun @2(0)"), " 1+1/3 "+clause("1", "PatBind 2", "Const 1"))
	becomes(t, "f() -> begin X = 1 end, fun (X) -> X end.",
		"Let(Case(Const 1; PatBoth(PatBind 0, PatBind 1), true -> 0; PatBind 2, true -> Fail(badmatch, 2)); 3; Fun @1())", " 0+1/2 "+clause("0", "PatBind 1", "1"))
	becomes(t, "f(X) -> fun () -> [1 || X <- []] end.", "Fun @1(1)",
		" 1+0/1 "+clause("Tuple()", "PatTuple()", "Bif reverse(Call @2(0, Const [], Const []))"),
		" 0+3/7 "+loop(2, 1, "PatBind 3", 4, "Cons(Const 1, 2)", 5))
}

// P8.4: what has a name's text and is no variable captures nothing.
func TestNothingIsCaptured(t *testing.T) {
	wholly(t, "'X'(X) -> fun () -> {'X', \"X\", 'X'('Y'), fun 'X'/1} end, X.",
		"X 0+1/3 "+clause("0", "PatBind 1", "Let(Fun @1(); 2; 1)"),
		" 0+0/0 "+clause("Tuple()", "PatTuple()", "Tuple(Const 'X', Const [88], Call @0(Const 'Y'), Fun @0())"))
	becomes(t, "f(X) -> fun (_) -> _ = 1 end.", "Fun @1()", " 0+1/3 "+clause("0", "PatAny", "Case(Const 1; PatBoth(PatBind 1, PatAny), true -> 1; PatBind 2, true -> Fail(badmatch, 2))"))
	becomes(t, "f(X) -> ['X' || _ <- X].", "Bif reverse(Call @1(1, Const []))", " 0+2/5 "+loop(1, 0, "PatAny", 2, "Cons(Const 'X', 1)", 3))
}

// P8.4: by their variables, rising: not by names, not as they stand in the fun.
func TestOrderOfWhatIsCaptured(t *testing.T) {
	becomes(t, "f() -> Z = 1, Y = 2, X = 3, fun () -> {X, Z, Y} end.",
		"Case(Const 1; PatBind 0, true -> Case(Const 2; PatBind 1, true -> Case(Const 3; PatBind 2, true -> Fun @1(0, 1, 2)"+
			"; PatBind 3, true -> Fail(badmatch, 3)); PatBind 4, true -> Fail(badmatch, 4)); PatBind 5, true -> Fail(badmatch, 5))",
		" 3+0/3 "+clause("Tuple()", "PatTuple()", "Tuple(2, 0, 1)"))
	var names, patterns, kids, inner, tuple []string
	for i := range 12 { // by numbers, not by their digits
		names = append(names, "V"+strings.Repeat("z", 12-i))
		patterns = append(patterns, "PatBind "+num(i+1))
		kids = append(kids, num(i+1))
		inner = append([]string{names[i]}, inner...)
		tuple = append([]string{num(i)}, tuple...)
	}
	wholly(t, "f({"+strings.Join(names, ", ")+"}) -> fun () -> {"+strings.Join(inner, ", ")+"} end.",
		"f 0+1/13 "+clause("0", "PatTuple("+strings.Join(patterns, ", ")+")", "Fun @1("+strings.Join(kids, ", ")+")"),
		" 12+0/12 "+clause("Tuple()", "PatTuple()", "Tuple("+strings.Join(tuple, ", ")+")"))
}

// P8.1, P8.4: a helper stands ahead of those in it, and these ahead of those behind it.
func TestOrderOfHelpers(t *testing.T) {
	zero := func(body string) string { return " 0+0/0 " + clause("Tuple()", "PatTuple()", body) }
	becomes(t, "f() -> {fun () -> {fun () -> fun () -> a end end, fun () -> b end} end, fun () -> c end}.", "Tuple(Fun @1(), Fun @5())",
		zero("Tuple(Fun @2(), Fun @4())"), zero("Fun @3()"), zero("Const a"), zero("Const b"), zero("Const c"))
	becomes(t, "f() -> {[fun () -> a end|fun () -> b end], case fun () -> c end of _ -> fun () -> d end end, fun () -> e end andalso fun () -> g end}.",
		"Tuple(Cons(Fun @1(), Fun @2()), Case(Fun @3(); PatAny, true -> Fun @4(); PatBind 0, true -> Fail(case_clause, 0)), "+
			"Case(Fun @5(); PatConst true, true -> Fun @6(); PatConst false, true -> Const false; PatBind 1, true -> Fail(badarg)))",
		zero("Const a"), zero("Const b"), zero("Const c"), zero("Const d"), zero("Const e"), zero("Const g"))
	becomes(t, "f() -> try fun () -> a end catch _ : _ -> receive _ -> fun () -> b end after fun () -> c end -> fun () -> d end end end, _ = fun () -> e end, (fun () -> g end)(fun () -> h end).",
		"Let(Try(Fun @1(); PatTuple(PatAny, PatAny), true -> Receive 1(PatAny, true -> Fun @2(); Fun @3(); Fun @4())); 0; "+
			"Case(Fun @5(); PatAny, true -> Apply(Fun @6(), Fun @7()); PatBind 1, true -> Fail(badmatch, 1)))",
		zero("Const a"), zero("Const b"), zero("Const c"), zero("Const d"), zero("Const e"), zero("Const g"), zero("Const h"))
}

// loop is the body of a generator's helper, of the place @at, which has captured so many; p is its pattern, t the first variable behind that, kept what is put down, last the first variable behind that.
func loop(at, caught int, p string, t int, kept string, last int) string {
	u, a := num(caught), num(caught+1)
	var own []string
	for i := range caught {
		own = append(own, num(i))
	}
	call := func(t int, items string) string {
		return "Call @" + num(at) + "(" + strings.Join(append(own[:caught:caught], num(t), items), ", ") + ")"
	}
	return "Case(" + u + "; PatCons(" + p + ", PatBind " + num(t) + "), true -> " + call(t, kept) +
		"; PatCons(PatAny, PatBind " + num(last) + "), true -> " + call(last, a) +
		"; PatConst [], true -> " + a + "; PatBind " + num(last+1) + ", true -> Fail(bad_generator, " + num(last+1) + "))"
}

// filter is what a filter becomes, x being its fresh variable.
func filter(test, kept, a string, x int) string {
	return "Case(" + test + "; PatConst true, true -> " + kept + "; PatConst false, true -> " + a + "; PatBind " + num(x) + ", true -> Fail(bad_filter, " + num(x) + "))"
}

// P8.6, as a whole, without the means of the other tests.
func TestComprehensionInFull(t *testing.T) {
	wholly(t, "f(A, L) -> [{X, A} || X <- L, X > A].",
		"f 0+2/4 Case(Tuple(0, 1); PatTuple(PatBind 2, PatBind 3), true -> Bif reverse(Call @1(2, 3, Const [])); PatAny, true -> Fail(function_clause))",
		" 0+3/8 Case(1; PatCons(PatBind 3, PatBind 4), true -> Call @1(0, 4, Case(Bif >(3, 0); PatConst true, true -> Cons(Tuple(3, 0), 2); PatConst false, true -> 2; PatBind 5, true -> Fail(bad_filter, 5)))"+
			"; PatCons(PatAny, PatBind 6), true -> Call @1(0, 6, 2); PatConst [], true -> 2; PatBind 7, true -> Fail(bad_generator, 7))")
}

// P8.6
func TestComprehensions(t *testing.T) {
	becomes(t, "f(X) -> [a || X].", "Bif reverse("+filter("1", "Cons(Const a, Const [])", "Const []", 2)+")")
	becomes(t, "f(X) -> [a || X, b].", "Bif reverse("+filter("1", filter("Const b", "Cons(Const a, Const [])", "Const []", 2), "Const []", 3)+")")
	becomes(t, "f(X) -> [a || begin Y = X, Y end].", "Bif reverse("+filter("Case(1; PatBind 2, true -> 2; PatBind 3, true -> Fail(badmatch, 3))", "Cons(Const a, Const [])", "Const []", 4)+")")
	becomes(t, "f(X) -> [begin Y = X, Y end || a].", "Bif reverse("+filter("Const a", "Cons(Case(1; PatBind 2, true -> 2; PatBind 3, true -> Fail(badmatch, 3)), Const [])", "Const []", 4)+")")
	becomes(t, "f(X) -> [Y || Y <- X].", "Bif reverse(Call @1(1, Const []))", " 0+2/6 "+loop(1, 0, "PatBind 2", 3, "Cons(2, 1)", 4))
	becomes(t, "f(X) -> [a || _ <- X].", "Bif reverse(Call @1(1, Const []))", " 0+2/5 "+loop(1, 0, "PatAny", 2, "Cons(Const a, 1)", 3))
	becomes(t, "f(X) -> [a || {Y, [Y|_], 1} <- X].", "Bif reverse(Call @1(1, Const []))",
		" 0+2/6 "+loop(1, 0, "PatTuple(PatBind 2, PatCons(PatSame 2, PatAny), PatConst 1)", 3, "Cons(Const a, 1)", 4))
	becomes(t, "f(X, Y) -> [{Z, X} || Z <- Y].", "Bif reverse(Call @1(2, 3, Const []))", " 0+3/7 "+loop(1, 1, "PatBind 3", 4, "Cons(Tuple(3, 0), 2)", 5))
	becomes(t, "f(X, Y) -> [Y || a, Z <- X, Z, b].",
		"Bif reverse("+filter("Const a", "Call @1(3, 2, Const [])", "Const []", 4)+")",
		" 0+3/9 "+loop(1, 1, "PatBind 3", 4, filter("3", filter("Const b", "Cons(0, 2)", "2", 5), "2", 6), 7))
	becomes(t, "f(X) -> [begin Y = Z end || Z <- X].", "Bif reverse(Call @1(1, Const []))",
		" 0+2/9 "+loop(1, 0, "PatBind 2", 3, "Cons(Case(2; PatBoth(PatBind 4, PatBind 5), true -> 4; PatBind 6, true -> Fail(badmatch, 6)), 1)", 7))
}

// P8.6: what a generator's pattern has by a name in scope is captured, and bound anew.
func TestGeneratorsThatBindAnew(t *testing.T) {
	becomes(t, "f(X) -> [X || X <- X].", "Bif reverse(Call @1(1, 1, Const []))", " 0+3/7 "+loop(1, 1, "PatBind 3", 4, "Cons(3, 2)", 5))
	becomes(t, "f(X, Y) -> [a || {X, X} <- Y].", "Bif reverse(Call @1(2, 3, Const []))", " 0+3/7 "+loop(1, 1, "PatTuple(PatBind 3, PatSame 3)", 4, "Cons(Const a, 2)", 5))
	becomes(t, "f(X) -> [X || X <- X, X <- X].", "Bif reverse(Call @1(1, 1, Const []))",
		" 0+3/7 "+loop(1, 1, "PatBind 3", 4, "Call @2(3, 3, 2)", 5), " 0+3/7 "+loop(2, 1, "PatBind 3", 4, "Cons(3, 2)", 5))
	becomes(t, "f(X) -> [a || X <- X, X <- [b]].", "Bif reverse(Call @1(1, 1, Const []))",
		" 0+3/7 "+loop(1, 1, "PatBind 3", 4, "Call @2(3, Cons(Const b, Const []), 2)", 5), " 0+3/7 "+loop(2, 1, "PatBind 3", 4, "Cons(Const a, 2)", 5))
	becomes(t, "f(X, Y) -> [a || _ <- X, X == Y].", "Bif reverse(Call @1(2, 3, 2, Const []))",
		" 0+4/8 "+loop(1, 2, "PatAny", 4, filter("Bif ==(0, 1)", "Cons(Const a, 3)", "3", 5), 6))
	becomes(t, "f(X) -> {[Y || Y <- X], [Y || Y <- X]}, Y = X.",
		"Let(Tuple(Bif reverse(Call @1(1, Const [])), Bif reverse(Call @2(1, Const []))); 2; Case(1; PatBoth(PatBind 3, PatBind 4), true -> 3; PatBind 5, true -> Fail(badmatch, 5)))",
		" 0+2/6 "+loop(1, 0, "PatBind 2", 3, "Cons(2, 1)", 4), " 0+2/6 "+loop(2, 0, "PatBind 2", 3, "Cons(2, 1)", 4))
}

// P8.6: the generators behind one are in its helper.
func TestGeneratorsInARow(t *testing.T) {
	becomes(t, "f(X, Y) -> [{A, B, X} || A <- X, B <- Y].", "Bif reverse(Call @1(2, 3, 2, Const []))",
		" 0+4/8 "+loop(1, 2, "PatBind 4", 5, "Call @2(0, 4, 1, 3)", 6),
		" 0+4/8 "+loop(2, 2, "PatBind 4", 5, "Cons(Tuple(1, 4, 0), 3)", 6))
	becomes(t, "f(X) -> [B || A <- X, A, B <- A, B].", "Bif reverse(Call @1(1, Const []))",
		" 0+2/7 "+loop(1, 0, "PatBind 2", 3, filter("2", "Call @2(2, 1)", "1", 4), 5),
		" 0+2/7 "+loop(2, 0, "PatBind 2", 3, filter("2", "Cons(2, 1)", "1", 4), 5))
	becomes(t, "f(X) -> [[B || B <- A] || A <- X].", "Bif reverse(Call @1(1, Const []))",
		" 0+2/6 "+loop(1, 0, "PatBind 2", 3, "Cons(Bif reverse(Call @2(2, Const [])), 1)", 4),
		" 0+2/6 "+loop(2, 0, "PatBind 2", 3, "Cons(2, 1)", 4))
}

// P8.1, P8.6: a generator's helper is come to ahead of its expression, with all that is in it.
func TestOrderOfGeneratorsHelpers(t *testing.T) {
	zero := func(body string) string { return " 0+0/0 " + clause("Tuple()", "PatTuple()", body) }
	becomes(t, "f(X) -> [A || A <- [B || B <- X]].", "Bif reverse(Call @1(Bif reverse(Call @2(1, Const [])), Const []))",
		" 0+2/6 "+loop(1, 0, "PatBind 2", 3, "Cons(2, 1)", 4), " 0+2/6 "+loop(2, 0, "PatBind 2", 3, "Cons(2, 1)", 4))
	becomes(t, "f() -> [fun () -> a end || _ <- fun () -> b end, fun () -> c end, _ <- fun () -> d end].", "Bif reverse(Call @1(Fun @6(), Const []))",
		" 0+2/6 "+loop(1, 0, "PatAny", 2, filter("Fun @2()", "Call @3(Fun @5(), 1)", "1", 3), 4), zero("Const c"),
		" 0+2/5 "+loop(3, 0, "PatAny", 2, "Cons(Fun @4(), 1)", 3), zero("Const a"), zero("Const d"), zero("Const b"))
}

// P8.4, P8.6: in one another.
func TestFunsAndComprehensionsInOneAnother(t *testing.T) {
	becomes(t, "f(X, Y) -> [fun (B) -> {X, A, B} end || A <- Y, A > X].", "Bif reverse(Call @1(2, 3, Const []))",
		" 0+3/8 "+loop(1, 1, "PatBind 3", 4, filter("Bif >(3, 0)", "Cons(Fun @2(0, 3), 2)", "2", 5), 6),
		" 2+1/4 "+clause("2", "PatBind 3", "Tuple(0, 1, 3)"))
	becomes(t, "f(X, Y) -> fun (Z) -> [{W, Z, Y} || W <- X] end.", "Fun @1(2, 3)",
		" 2+1/4 "+clause("2", "PatBind 3", "Bif reverse(Call @2(1, 3, 0, Const []))"),
		" 0+4/8 "+loop(2, 2, "PatBind 4", 5, "Cons(Tuple(4, 1, 0), 3)", 6))
	becomes(t, "f(X, Y) -> fun () -> fun () -> {fun () -> Y end, X} end end.", "Fun @1(2, 3)",
		" 2+0/2 "+clause("Tuple()", "PatTuple()", "Fun @2(0, 1)"), " 2+0/2 "+clause("Tuple()", "PatTuple()", "Tuple(Fun @3(1), 0)"), " 1+0/1 "+clause("Tuple()", "PatTuple()", "0"))
	becomes(t, "f(X, Y) -> [A || A <- [fun () -> X end, Y]].", "Bif reverse(Call @1(Cons(Fun @2(2), Cons(3, Const [])), Const []))",
		" 0+2/6 "+loop(1, 0, "PatBind 2", 3, "Cons(2, 1)", 4), " 1+0/1 "+clause("Tuple()", "PatTuple()", "0"))
	becomes(t, "f(X, Y) -> [(fun (X) -> [X || Y] end)(A) || A <- X].", "Bif reverse(Call @1(2, 3, 2, Const []))",
		" 0+4/8 "+loop(1, 2, "PatBind 4", 5, "Cons(Apply(Fun @2(0, 1), 4), 3)", 6),
		" 2+1/5 "+clause("2", "PatBind 3", "Bif reverse("+filter("1", "Cons(3, Const [])", "Const []", 4)+")"))
}
