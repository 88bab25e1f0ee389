package core_test

import (
	"strings"
	"testing"
)

// P8.1
func TestFunctions(t *testing.T) {
	last := "; PatAny, true -> Fail(function_clause))"
	wholly(t, "")
	wholly(t, "f(X) -> X + 1.", "f 0+1/2 Case(0; PatBind 1, true -> Bif +(1, Const 1)"+last)
	wholly(t, "f() -> a.", "f 0+0/0 Case(Tuple(); PatTuple(), true -> Const a"+last)
	wholly(t, "f(X, Y) -> {Y, X}.", "f 0+2/4 Case(Tuple(0, 1); PatTuple(PatBind 2, PatBind 3), true -> Tuple(3, 2)"+last)
	wholly(t, "f({X}) -> X.", "f 0+1/2 Case(0; PatTuple(PatBind 1), true -> 1"+last)
	wholly(t, "f(1) -> a; f(2) -> b.", "f 0+1/1 Case(0; PatConst 1, true -> Const a; PatConst 2, true -> Const b"+last)
	wholly(t, "f() -> a; f() when true -> b.", "f 0+0/0 Case(Tuple(); PatTuple(), true -> Const a; PatTuple(), GuardAny(GuardAll(Const true)) -> Const b"+last)
	wholly(t, "f(X, Y) when X > Y -> Z = X; f(Y, _) -> Y; f(X, X) -> b.",
		"f 0+2/9 Case(Tuple(0, 1); PatTuple(PatBind 2, PatBind 3), GuardAny(GuardAll(Bif >(2, 3))) -> Case(2; PatBoth(PatBind 4, PatBind 5), true -> 4; PatBind 6, true -> Fail(badmatch, 6))"+
			"; PatTuple(PatBind 7, PatAny), true -> 7; PatTuple(PatBind 8, PatSame 8), true -> Const b"+last)
}

// P8.1: as many parameters as there may be.
func TestTwelveParameters(t *testing.T) {
	var names, variables, binds []string
	for i := range 12 {
		names = append(names, "X"+strings.Repeat("a", i))
		variables = append(variables, num(i))
		binds = append(binds, "PatBind "+num(i+12))
	}
	wholly(t, "f("+strings.Join(names, ", ")+") -> {"+names[11]+", X}.",
		"f 0+12/24 Case(Tuple("+strings.Join(variables, ", ")+"); PatTuple("+strings.Join(binds, ", ")+"), true -> Tuple(23, 12); PatAny, true -> Fail(function_clause))")
}

// P8.1
func TestFunctionsStandInOrder(t *testing.T) {
	clause := func(body string) string {
		return "Case(Tuple(); PatTuple(), true -> " + body + "; PatAny, true -> Fail(function_clause))"
	}
	one := func(body string) string {
		return "Case(0; PatBind 1, true -> " + body + "; PatAny, true -> Fail(function_clause))"
	}
	wholly(t, "z() -> g(). g() -> f(1). f(X) -> f(). f() -> {fun z/0, fun f/1, fun f/0}.",
		"z 0+0/0 "+clause("Call @1()"), "g 0+0/0 "+clause("Call @2(Const 1)"), "f 0+1/2 "+one("Call @3()"), "f 0+0/0 "+clause("Tuple(Fun @0(), Fun @2(), Fun @3())"))
	wholly(t, "'a b'() -> ''(). ''() -> 'a b'().", "a b 0+0/0 "+clause("Call @1()"), " 0+0/0 "+clause("Call @0()"))
	wholly(t, "f() -> fun () -> fun () -> f() end end. g() -> {fun () -> 1 end, fun () -> g() end}. h() -> h().",
		"f 0+0/0 "+clause("Fun @3()"), "g 0+0/0 "+clause("Tuple(Fun @5(), Fun @6())"), "h 0+0/0 "+clause("Call @2()"),
		" 0+0/0 "+clause("Fun @4()"), " 0+0/0 "+clause("Call @0()"), " 0+0/0 "+clause("Const 1"), " 0+0/0 "+clause("Call @1()"))
}

// P8.2: patterns of heads.
func TestPatterns(t *testing.T) {
	for _, c := range []struct {
		source, want string
		vars         int
	}{
		{"1", "PatConst 1", 1}, {"0", "PatConst 0", 1}, {"007", "PatConst 7", 1}, {"000", "PatConst 0", 1}, {"18446744073709551616", "PatConst 18446744073709551616", 1},
		{"-5", "PatConst -5", 1}, {"- 005", "PatConst -5", 1}, {"-0", "PatConst 0", 1}, {"-00", "PatConst 0", 1}, {"-18446744073709551616", "PatConst -18446744073709551616", 1},
		{"a", "PatConst a", 1}, {"'a b'", "PatConst 'a b'", 1}, {"''", "PatConst ''", 1}, {"true", "PatConst true", 1},
		{`"ab"`, "PatConst [97,98]", 1}, {`""`, "PatConst []", 1}, {`"\x00\xff"`, "PatConst [0,255]", 1},
		{"_", "PatAny", 1}, {"X", "PatBind 1", 2}, {"_X", "PatBind 1", 2}, {"__", "PatBind 1", 2},
		{"{}", "PatTuple()", 1}, {"{X}", "PatTuple(PatBind 1)", 2}, {"{1, X, _, Y, a}", "PatTuple(PatConst 1, PatBind 1, PatAny, PatBind 2, PatConst a)", 3},
		{"{_, _}", "PatTuple(PatAny, PatAny)", 1}, {"{X, X}", "PatTuple(PatBind 1, PatSame 1)", 2}, {"{X, {Y, X}, [Y|X]}", "PatTuple(PatBind 1, PatTuple(PatBind 2, PatSame 1), PatCons(PatSame 2, PatSame 1))", 3},
		{"[]", "PatConst []", 1}, {"[X]", "PatCons(PatBind 1, PatConst [])", 2}, {"[X, 1, Y]", "PatCons(PatBind 1, PatCons(PatConst 1, PatCons(PatBind 2, PatConst [])))", 3},
		{"[X|Y]", "PatCons(PatBind 1, PatBind 2)", 3}, {"[X, Y|Z]", "PatCons(PatBind 1, PatCons(PatBind 2, PatBind 3))", 4}, {"[1|[]]", "PatCons(PatConst 1, PatConst [])", 1},
		{"[X|X]", "PatCons(PatBind 1, PatSame 1)", 2}, {`[_|"a"]`, "PatCons(PatAny, PatConst [97])", 1}, {"[[X]|-1]", "PatCons(PatCons(PatBind 1, PatConst []), PatConst -1)", 2}, {"[1|[2|[X]]]", "PatCons(PatConst 1, PatCons(PatConst 2, PatCons(PatBind 1, PatConst [])))", 2},
		{"X = Y", "PatBoth(PatBind 1, PatBind 2)", 3}, {"X = {Y, X}", "PatBoth(PatBind 1, PatTuple(PatBind 2, PatSame 1))", 3}, {"{X} = X", "PatBoth(PatTuple(PatBind 1), PatSame 1)", 2}, {"X = Y = 1", "PatBoth(PatBind 1, PatBoth(PatBind 2, PatConst 1))", 3},
		{"{X = 1, Y = X}", "PatTuple(PatBoth(PatBind 1, PatConst 1), PatBoth(PatBind 2, PatSame 1))", 3}, {"_ = X", "PatBoth(PatAny, PatBind 1)", 2},
	} {
		wholly(t, "f("+c.source+") -> ok.", "f 0+1/"+num(c.vars)+" Case(0; "+c.want+", true -> Const ok; PatAny, true -> Fail(function_clause))")
	}
}

// P8.2: patterns where names are in scope.
func TestPatternsOfNamesInScope(t *testing.T) {
	last := "; PatBind %, true -> Fail(case_clause, %))"
	end := func(x string) string { return strings.ReplaceAll(last, "%", x) }
	becomes(t, "f(X) -> case 1 of X -> X end.", "Case(Const 1; PatSame 1, true -> 1"+end("2"))
	becomes(t, "f(X) -> case 1 of {Y, X, Y} -> Y; {X, Y} -> Y end.",
		"Case(Const 1; PatTuple(PatBind 2, PatSame 1, PatSame 2), true -> 2; PatTuple(PatSame 1, PatBind 3), true -> 3"+end("4"))
	becomes(t, "f(X) -> case 1 of X = Y = X -> Y end.", "Case(Const 1; PatBoth(PatSame 1, PatBoth(PatBind 2, PatSame 1)), true -> 2"+end("3"))
	becomes(t, "f(X) -> case X of 1 -> Y = 2; 3 -> Y = 4 end, Y = X.",
		"Let(Case(1; PatConst 1, true -> Case(Const 2; PatBoth(PatBind 2, PatBind 3), true -> 2; PatBind 4, true -> Fail(badmatch, 4))"+
			"; PatConst 3, true -> Case(Const 4; PatBoth(PatBind 5, PatBind 6), true -> 5; PatBind 7, true -> Fail(badmatch, 7))"+end("8")+
			"; 9; Case(1; PatBoth(PatBind 10, PatBind 11), true -> 10; PatBind 12, true -> Fail(badmatch, 12)))")
	becomes(t, "f(X) -> receive {X, Y} -> Y end.", "Receive 0(PatTuple(PatSame 1, PatBind 2), true -> 2)")
	becomes(t, "f(X) -> try X catch X : X -> X; X : Y -> Y; error : X -> 1; _ : _ -> 2 end.",
		"Try(1; PatTuple(PatSame 1, PatSame 1), true -> 1; PatTuple(PatSame 1, PatBind 2), true -> 2; PatTuple(PatConst error, PatSame 1), true -> Const 1; PatTuple(PatAny, PatAny), true -> Const 2)")
}

// P8.3
func TestGuards(t *testing.T) {
	for source, want := range map[string]string{
		"X":                           "GuardAny(GuardAll(1))",
		"true":                        "GuardAny(GuardAll(Const true))",
		"X, 1":                        "GuardAny(GuardAll(1, Const 1))",
		"X; 1":                        "GuardAny(GuardAll(1), GuardAll(Const 1))",
		"X, a; 1, 2; X":               "GuardAny(GuardAll(1, Const a), GuardAll(Const 1, Const 2), GuardAll(1))",
		"X > 1, X < 007":              "GuardAny(GuardAll(Bif >(1, Const 1), Bif <(1, Const 7)))",
		"{}":                          "GuardAny(GuardAll(Tuple()))",
		"{X, 1} == [X, a|X]":          "GuardAny(GuardAll(Bif ==(Tuple(1, Const 1), Cons(1, Cons(Const a, 1)))))",
		"[]":                          "GuardAny(GuardAll(Const []))",
		"[X, 2]":                      "GuardAny(GuardAll(Cons(1, Cons(Const 2, Const []))))",
		`"a"`:                         "GuardAny(GuardAll(Const [97]))",
		"-1":                          "GuardAny(GuardAll(Bif -(Const 1)))",
		"- X - 1":                     "GuardAny(GuardAll(Bif -(Bif -(1), Const 1)))",
		"not X":                       "GuardAny(GuardAll(Bif not(1)))",
		"is_atom(X)":                  "GuardAny(GuardAll(Bif is_atom(1)))",
		"element(1, X) =:= hd(X)":     "GuardAny(GuardAll(Bif =:=(Bif element(Const 1, 1), Bif hd(1))))",
		"'+'(X, 1)":                   "GuardAny(GuardAll(Bif +(1, Const 1)))",
		"X andalso a":                 "GuardAny(GuardAll(GuardAll(1, Const a)))",
		"X orelse a":                  "GuardAny(GuardAll(GuardAny(1, Const a)))",
		"X and a, X or a":             "GuardAny(GuardAll(Bif and(1, Const a), Bif or(1, Const a)))",
		"a andalso b andalso c":       "GuardAny(GuardAll(GuardAll(GuardAll(Const a, Const b), Const c)))",
		"a orelse b andalso c":        "GuardAny(GuardAll(GuardAny(Const a, GuardAll(Const b, Const c))))",
		"not (a orelse b)":            "GuardAny(GuardAll(Bif not(GuardAny(Const a, Const b))))",
		"{a andalso b, [a orelse b]}": "GuardAny(GuardAll(Tuple(GuardAll(Const a, Const b), Cons(GuardAny(Const a, Const b), Const []))))",
		"hd([a orelse b]) == 1; X":    "GuardAny(GuardAll(Bif ==(Bif hd(Cons(GuardAny(Const a, Const b), Const [])), Const 1)), GuardAll(1))",
	} {
		wholly(t, "f(X) when "+source+" -> ok.", "f 0+1/2 Case(0; PatBind 1, "+want+" -> Const ok; PatAny, true -> Fail(function_clause))")
		becomes(t, "f(X) -> case 1 of _ when "+source+" -> ok end.", "Case(Const 1; PatAny, "+want+" -> Const ok; PatBind 2, true -> Fail(case_clause, 2))")
		becomes(t, "f(X) -> if "+source+" -> ok end.", "Case(Const true; PatAny, "+want+" -> Const ok; PatAny, true -> Fail(if_clause))")
		becomes(t, "f(X) -> receive _ when "+source+" -> ok end.", "Receive 0(PatAny, "+want+" -> Const ok)")
		becomes(t, "f(X) -> try 1 catch _ : _ when "+source+" -> ok end.", "Try(Const 1; PatTuple(PatAny, PatAny), "+want+" -> Const ok)")
	}
	becomes(t, "f(X) -> case 1 of {Y, X} when Y; X -> ok end.", "Case(Const 1; PatTuple(PatBind 2, PatSame 1), GuardAny(GuardAll(2), GuardAll(1)) -> Const ok; PatBind 3, true -> Fail(case_clause, 3))")
}

// P8.4: what has no parts of its own that bind.
func TestPlainExpressions(t *testing.T) {
	for source, want := range map[string]string{
		"1": "Const 1", "00": "Const 0", "007": "Const 7", "18446744073709551616": "Const 18446744073709551616",
		"a": "Const a", "'a b'": "Const 'a b'", "''": "Const ''", `"ab"`: "Const [97,98]", `""`: "Const []", "X": "1",
		"{}": "Tuple()", "{X}": "Tuple(1)", "{X, {1}, a}": "Tuple(1, Tuple(Const 1), Const a)",
		"[]": "Const []", "[X]": "Cons(1, Const [])", "[X, 1, 2]": "Cons(1, Cons(Const 1, Cons(Const 2, Const [])))", "[X|1]": "Cons(1, Const 1)", "[1, 2|X]": "Cons(Const 1, Cons(Const 2, 1))", "[1|[2]]": "Cons(Const 1, Cons(Const 2, Const []))", "[[]|[]]": "Cons(Const [], Const [])",
		"-1": "Bif -(Const 1)", "- -X": "Bif -(Bif -(1))", "+X": "Bif +(1)", "not X": "Bif not(1)",
		"X + 1 * 2": "Bif +(1, Bif *(Const 1, Const 2))", "X - 1 - 2": "Bif -(Bif -(1, Const 1), Const 2)", "X ! a ! 1": "Bif !(1, Bif !(Const a, Const 1))", "X ++ [1] -- X": "Bif ++(1, Bif --(Cons(Const 1, Const []), 1))",
		"X and true": "Bif and(1, Const true)", "X or true": "Bif or(1, Const true)", "X xor a": "Bif xor(1, Const a)", "X div 1 rem 2": "Bif rem(Bif div(1, Const 1), Const 2)",
		"X == 1": "Bif ==(1, Const 1)", "X /= 1": "Bif /=(1, Const 1)", "X =:= 1": "Bif =:=(1, Const 1)", "X =/= 1": "Bif =/=(1, Const 1)", "X < 1": "Bif <(1, Const 1)", "X =< 1": "Bif =<(1, Const 1)", "X > 1": "Bif >(1, Const 1)", "X >= 1": "Bif >=(1, Const 1)",
		"f(a)": "Call @0(Const a)", "f(f(X))": "Call @0(Call @0(1))", "self()": "Bif self()", "hd(X)": "Bif hd(1)", "setelement(1, X, 2)": "Bif setelement(Const 1, 1, Const 2)", "exit(X)": "Bif exit(1)", "exit(X, a)": "Bif exit(1, Const a)", "'!'(X, 1)": "Bif !(1, Const 1)", "throw(X)": "Bif throw(1)",
		"X()": "Apply(1)", "X(1, a)": "Apply(1, Const 1, Const a)", "f(X)(1)": "Apply(Call @0(1), Const 1)", "X(1)(2)": "Apply(Apply(1, Const 1), Const 2)", "{}()": "Apply(Tuple())", "1(X)": "Apply(Const 1, 1)", "(fun f/1)(X)": "Apply(Fun @0(), 1)",
		"fun f/1": "Fun @0()", "begin X end": "1", "begin begin 1 end end": "Const 1",
	} {
		becomes(t, "f(X) -> "+source+".", want)
	}
}

// P8.4
func TestAndalsoOrelse(t *testing.T) {
	becomes(t, "f() -> a andalso b.", "Case(Const a; PatConst true, true -> Const b; PatConst false, true -> Const false; PatBind 0, true -> Fail(badarg))")
	becomes(t, "f() -> a orelse b.", "Case(Const a; PatConst true, true -> Const true; PatConst false, true -> Const b; PatBind 0, true -> Fail(badarg))")
	becomes(t, "f(X) -> X andalso X orelse X.",
		"Case(Case(1; PatConst true, true -> 1; PatConst false, true -> Const false; PatBind 2, true -> Fail(badarg)); PatConst true, true -> Const true; PatConst false, true -> 1; PatBind 3, true -> Fail(badarg))")
	becomes(t, "f() -> (a andalso b) orelse (c andalso d).",
		"Case(Case(Const a; PatConst true, true -> Const b; PatConst false, true -> Const false; PatBind 0, true -> Fail(badarg)); PatConst true, true -> Const true; PatConst false, true -> "+
			"Case(Const c; PatConst true, true -> Const d; PatConst false, true -> Const false; PatBind 1, true -> Fail(badarg)); PatBind 2, true -> Fail(badarg))")
	becomes(t, "f() -> (a orelse b) andalso (c orelse d).",
		"Case(Case(Const a; PatConst true, true -> Const true; PatConst false, true -> Const b; PatBind 0, true -> Fail(badarg)); PatConst true, true -> "+
			"Case(Const c; PatConst true, true -> Const true; PatConst false, true -> Const d; PatBind 1, true -> Fail(badarg)); PatConst false, true -> Const false; PatBind 2, true -> Fail(badarg))")
	becomes(t, "f() -> {a andalso b, [not (a orelse b)]}.",
		"Tuple(Case(Const a; PatConst true, true -> Const b; PatConst false, true -> Const false; PatBind 0, true -> Fail(badarg)), "+
			"Cons(Bif not(Case(Const a; PatConst true, true -> Const true; PatConst false, true -> Const b; PatBind 1, true -> Fail(badarg))), Const []))")
	becomes(t, "f(X) -> [a || X andalso X].",
		"Bif reverse(Case(Case(1; PatConst true, true -> 1; PatConst false, true -> Const false; PatBind 2, true -> Fail(badarg)); PatConst true, true -> Cons(Const a, Const []); PatConst false, true -> Const []; PatBind 3, true -> Fail(bad_filter, 3)))")
}

// P8.4: where several kids want fresh variables, they get them from left to right.
func TestKidsFromLeftToRight(t *testing.T) {
	one := func(x string) string {
		return "Case(Const 1; PatBind " + x + ", true -> " + x + "; PatBind " + num(1+number(x)) + ", true -> Fail(case_clause, " + num(1+number(x)) + "))"
	}
	e := "case 1 of Y -> Y end"
	for source, want := range map[string]string{
		"{" + e + ", " + e + "}":                "Tuple(" + one("2") + ", " + one("4") + ")",
		"[" + e + ", " + e + "]":                "Cons(" + one("2") + ", Cons(" + one("4") + ", Const []))",
		"[" + e + ", " + e + "|" + e + "]":      "Cons(" + one("2") + ", Cons(" + one("4") + ", " + one("6") + "))",
		e + " + " + e:                           "Bif +(" + one("2") + ", " + one("4") + ")",
		"f(" + e + ")":                          "Call @0(" + one("2") + ")",
		"exit(" + e + ", " + e + ")":            "Bif exit(" + one("2") + ", " + one("4") + ")",
		"(" + e + ")(" + e + ", " + e + ")":     "Apply(" + one("2") + ", " + one("4") + ", " + one("6") + ")",
		e + " andalso " + e:                     "Case(" + one("2") + "; PatConst true, true -> " + one("4") + "; PatConst false, true -> Const false; PatBind 6, true -> Fail(badarg))",
		e + " orelse " + e:                      "Case(" + one("2") + "; PatConst true, true -> Const true; PatConst false, true -> " + one("4") + "; PatBind 6, true -> Fail(badarg))",
		"case " + e + " of Z -> " + e + " end":  "Case(" + one("2") + "; PatBind 4, true -> " + one("5") + "; PatBind 7, true -> Fail(case_clause, 7))",
		"if X -> " + e + "; a -> " + e + " end": "Case(Const true; PatAny, GuardAny(GuardAll(1)) -> " + one("2") + "; PatAny, GuardAny(GuardAll(Const a)) -> " + one("4") + "; PatAny, true -> Fail(if_clause))",
		"receive Z -> " + e + "; W -> Z = W after " + e + " -> " + e + " end": "Receive 1(PatBind 2, true -> " + one("3") + "; PatBind 5, true -> Case(5; PatBoth(PatBind 6, PatBind 7), true -> 6; PatBind 8, true -> Fail(badmatch, 8)); " + one("9") + "; " + one("11") + ")",
		"try " + e + " catch Z : W -> " + e + "; W : _ -> " + e + " end":      "Try(" + one("2") + "; PatTuple(PatBind 4, PatBind 5), true -> " + one("6") + "; PatTuple(PatBind 8, PatAny), true -> " + one("9") + ")",
		"begin " + e + ", " + e + " end":                                      "Let(" + one("2") + "; 4; " + one("5") + ")",
	} {
		becomes(t, "f(X) -> "+source+".", want)
	}
}

// P8.4: a case, an if, a receive, a try, a begin.
func TestClausedExpressions(t *testing.T) {
	becomes(t, "f(X) -> case X of 1 -> a; Y when Y > 1 -> Y end.",
		"Case(1; PatConst 1, true -> Const a; PatBind 2, GuardAny(GuardAll(Bif >(2, Const 1))) -> 2; PatBind 3, true -> Fail(case_clause, 3))")
	becomes(t, "f(X) -> case X of _ -> a end.", "Case(1; PatAny, true -> Const a; PatBind 2, true -> Fail(case_clause, 2))")
	becomes(t, "f(X) -> if X -> a end.", "Case(Const true; PatAny, GuardAny(GuardAll(1)) -> Const a; PatAny, true -> Fail(if_clause))")
	becomes(t, "f(X) -> if X -> Y = 1; X, a; b -> Y = 2, Y end.",
		"Case(Const true; PatAny, GuardAny(GuardAll(1)) -> Case(Const 1; PatBoth(PatBind 2, PatBind 3), true -> 2; PatBind 4, true -> Fail(badmatch, 4))"+
			"; PatAny, GuardAny(GuardAll(1, Const a), GuardAll(Const b)) -> Case(Const 2; PatBind 5, true -> 5; PatBind 6, true -> Fail(badmatch, 6)); PatAny, true -> Fail(if_clause))")
	becomes(t, "f(X) -> receive Y -> Y end.", "Receive 0(PatBind 2, true -> 2)")
	becomes(t, "f(X) -> receive {Y, X} -> Y; Y -> X end.", "Receive 0(PatTuple(PatBind 2, PatSame 1), true -> 2; PatBind 3, true -> 1)")
	becomes(t, "f(X) -> receive after X -> late end.", "Receive 1(1; Const late)")
	becomes(t, "f(X) -> receive Y -> Y after X + 1 -> Y = X, Y end.",
		"Receive 1(PatBind 2, true -> 2; Bif +(1, Const 1); Case(1; PatBind 3, true -> 3; PatBind 4, true -> Fail(badmatch, 4)))")
	becomes(t, "f(X) -> receive after begin Y = 1 end -> Y = 2 end.",
		"Receive 1(Case(Const 1; PatBoth(PatBind 2, PatBind 3), true -> 2; PatBind 4, true -> Fail(badmatch, 4)); Case(Const 2; PatBoth(PatBind 5, PatBind 6), true -> 5; PatBind 7, true -> Fail(badmatch, 7)))")
	becomes(t, "f(X) -> try f(X), X catch error : Y -> Y; Y : _ when Y == X -> X end.",
		"Try(Let(Call @0(1); 2; 1); PatTuple(PatConst error, PatBind 3), true -> 3; PatTuple(PatBind 4, PatAny), GuardAny(GuardAll(Bif ==(4, 1))) -> 1)")
	becomes(t, "f(X) -> try Y = X, Y catch Y : Y -> Y end.",
		"Try(Case(1; PatBind 2, true -> 2; PatBind 3, true -> Fail(badmatch, 3)); PatTuple(PatBind 4, PatSame 4), true -> 4)")
	becomes(t, "f(X) -> {begin Y = X, Y end, begin Y = 1 end}.",
		"Tuple(Case(1; PatBind 2, true -> 2; PatBind 3, true -> Fail(badmatch, 3)), Case(Const 1; PatBoth(PatBind 4, PatBind 5), true -> 4; PatBind 6, true -> Fail(badmatch, 6)))")
}
