package lint_test

import (
	"strings"
	"testing"

	"pigeonhole/api"
	"pigeonhole/lint"
	"pigeonhole/parse"
)

// faulty asks each source for the fault that it has, which stands where the source has a ^.
func faulty(t *testing.T, err api.Errno, sources ...string) {
	t.Helper()
	for _, marked := range sources {
		at := strings.Index(marked, "^")
		if at < 0 || strings.Count(marked, "^") > 1 {
			t.Fatalf("%s: where is its fault?", marked)
		}
		told(t, marked[:at]+marked[at+1:], api.Fault{Err: err, At: at})
	}
}

// sound asks that the sources are programs.
func sound(t *testing.T, sources ...string) {
	t.Helper()
	for _, source := range sources {
		told(t, source, api.Fault{})
	}
}

func told(t *testing.T, source string, want api.Fault) {
	t.Helper()
	m, fault := parse.Module(source)
	if fault != (api.Fault{}) {
		t.Errorf("%s: %v, no module", source, fault)
		return
	}
	if got := lint.Check(m); got != want {
		t.Errorf("%s: %v, not %v", source, got, want)
	}
	if words := checkByWords(m); words != want {
		t.Errorf("%s: %v by the chapter's words, not %v", source, words, want)
	}
}

// row is so many of one text, with commas between.
func row(times int, text string) string {
	return strings.TrimSuffix(strings.Repeat(text+", ", times), ", ")
}

// The chapter's examples, and those of the document that are of this layer.
func TestExamples(t *testing.T) {
	faulty(t, api.ErrFree, "f(X) -> ^Y.")
	faulty(t, api.ErrUnsafe, "f(X) -> case X of 1 -> Y = 2; _ -> 3 end, ^Y.")
	faulty(t, api.ErrCall, "f(1) -> ^g().")
	faulty(t, api.ErrGuard, "f(X) when ^self() == X -> 1.")
	sound(t, "f(X) -> fun (X) -> X end.",
		"f(X) -> print(X + 1).",
		"f() -> self() ! 1, self() ! 2, receive 2 -> receive X -> print(X) end end.",
		"f() -> P = spawn_link(fun () -> exit(a) end), receive X -> X end.",
		"f() -> receive X -> X after 5 -> print(late) end.",
		"f(L) -> [X * 2 || X <- L, X > 1].",
		"f(X) -> try g(X) catch error : badarith -> none end. g(X) -> X + a.")
}

// P7.2: ordinary programs.
func TestPrograms(t *testing.T) {
	sound(t, "", "% nothing\n",
		"fact(0) -> 1; fact(N) when N > 0 -> N * fact(N - 1).",
		"map(F, [H | T]) -> [F(H) | map(F, T)]; map(_, []) -> []. main() -> map(fun (X) -> X * X end, seq(1, 10)).",
		"server(S) -> receive {get, From} -> From ! {value, S}, server(S); {put, V} -> server(V); stop -> ok after 1000 -> server(S) end.",
		"start() -> P = spawn(fun () -> server([]) end), register(box, P), P ! {get, self()}, receive {value, V} -> V end. server(S) -> S.",
		"even(0) -> true; even(N) -> odd(N - 1). odd(0) -> false; odd(N) -> even(N - 1).",
		"f(X) -> case X of {A, B} when A > B; A == 0, B == 0 -> A; {A, _} -> A; [H | T] = L -> {H, T, L} end.",
		"f(X) -> if X > 1 -> Y = 1, Y; true -> Y = 2, Y end.",
		"f(F) -> try Y = F(1), Y catch throw : {a, R} when is_atom(R) -> R; C : R -> {C, R} end.",
		"f() -> [fun f/0, fun g/2]. g(A, B) -> {A, B}.",
		"f(X) -> {_, [Y | _]} = Z = X, {Y, Z}.",
		"f(A, B) -> [{X, Y} || X <- A, Y <- B, X /= Y].",
		"f() -> 'odd name'(\"text\"). 'odd name'(_) -> 'X'.",
		"f(X, X) -> X; f({X, Y}, [Y | X]) -> {X, Y}.")
}

// P7.2, 1: functions of one name and arity, and such as are built in.
func TestTwice(t *testing.T) {
	faulty(t, api.ErrTwice, "f() -> 1. ^f() -> 2.", "f(A) -> A. g() -> 1. ^f(B) -> B.", "f() -> 1. ^f() -> 2. f() -> 3.", "f() -> 1. ^'f'() -> 2.", "'' () -> 1. ^''() -> 1.",
		"f(1) -> 1; f(2) -> 2. f() -> 1. ^f(3) -> 3.", "^hd(X) -> X.", "f() -> 1. ^self() -> 1.", "^'+'(A, B) -> A.", "^'!'(A, B) -> A.")
	sound(t, "f() -> 1. f(_) -> 2. f(_, _) -> 3.", "hd() -> 1. hd(_, _) -> 2.", "f() -> 1. 'F'() -> 1. ''() -> 1.", "'andalso'(_, _) -> 1. 'orelse'(_, _) -> 1.")
	for known := range table {
		for arity := range 5 {
			source := "'" + known.name + "'(" + row(arity, "_") + ") -> 1."
			if table[called{known.name, arity}] != 0 {
				faulty(t, api.ErrTwice, "^"+source, "f() -> 1. ^"+source)
			} else {
				sound(t, source)
			}
		}
	}
}

// P7.2, 1: clauses of too many patterns, and of unlike arities.
func TestArities(t *testing.T) {
	f := func(patterns int) string { return "f(" + row(patterns, "_") + ") -> 1" }
	for patterns := range 13 {
		sound(t, f(patterns)+".", f(patterns)+"; "+f(patterns)+".")
	}
	for _, patterns := range []int{13, 14, 255, 300} {
		faulty(t, api.ErrMany, "^"+f(patterns)+".", f(12)+"; ^"+f(patterns)+".", f(0)+"; ^"+f(patterns)+".", "g() -> 1. ^"+f(patterns)+".", f(1)+"; "+f(1)+"; ^"+f(patterns)+"; "+f(2)+".", "^"+f(patterns)+"; "+f(patterns)+".", "^"+f(patterns)+"; "+f(1)+".")
	}
	faulty(t, api.ErrArity, f(1)+"; ^"+f(0)+".", f(0)+"; ^"+f(1)+".", f(12)+"; ^"+f(11)+".", f(1)+"; "+f(1)+"; ^"+f(2)+"; "+f(0)+".", f(1)+"; ^"+f(2)+"; "+f(13)+".", "g() -> 1. "+f(0)+"; ^"+f(1)+".")
}

// P7.2: of two faults in functions' heads and bodies the one that comes first.
func TestOrderOfFunctions(t *testing.T) {
	f := func(patterns int) string { return "f(" + row(patterns, "_") + ") -> 1" }
	faulty(t, api.ErrTwice, "f() -> X. ^f() -> 1.", "f(a + b) -> 1. g() -> 1. ^g() -> 1.", "^hd(_) -> 1; hd() -> 1.", "^hd(_) -> 1; hd("+row(13, "_")+") -> 1.", "f() -> Y. ^self() -> Y.", "f() -> g(). f(1) -> 1. ^f(2) -> 1; f() -> 1.")
	faulty(t, api.ErrArity, "f() -> X; ^f(1) -> 1.", f(1)+"; ^"+f(0)+". "+f(1)+".", f(1)+"; ^"+f(0)+". self() -> 1.", "f(X) when g(X) -> Y. g(1) -> 1; ^g() -> 2.", "f(_) -> fun ("+row(13, "_")+") -> 1 end; ^f() -> 1.")
	faulty(t, api.ErrMany, "f() -> X. ^g("+row(13, "_")+") -> 1.", "^"+f(13)+". "+f(13)+".", f(1)+"; ^"+f(13)+". "+f(1)+".")
	faulty(t, api.ErrFree, "f() -> ^X. g() -> Y.", "f() -> ^X, Y.", "f(1) -> ^X; f(Y) when self() -> Z.", "f(1) -> 1; f(X) when ^Y -> Z.", "f() -> ^X. g() -> h().", "f(X) -> X; f(_) -> ^X.", "f(X) -> X. g() -> ^X.")
	faulty(t, api.ErrPattern, "f(^a + b) -> Y.", "f(1, ^a + b, X) when Z -> Y.", "f(^{} ++ a, b ++ c) -> 1.", "f(^g()) when self() -> 1.", "f(1) -> 1; f(^X(1)) -> Y.")
	faulty(t, api.ErrGuard, "f(X) when ^self() -> Y.", "f(X) when X, ^self(); Z -> Y.", "f() when ^a ! b -> g().")
	faulty(t, api.ErrCall, "f() -> ^g(). h() -> X.", "f() -> ^g(X).", "f() -> ^fun g/1, X.")
}

// P7.2: a function's clauses have no names in common.
func TestClausesAreApart(t *testing.T) {
	faulty(t, api.ErrFree, "f(X) -> Y = X; f(Z) -> ^Y.", "f(X) -> case X of 1 -> Y = 1 end; f(_) -> ^Y.", "f(X) -> begin Y = X end. g() -> ^Y.", "f(X, 1) -> X; f(1, Y) when ^X -> Y.")
}

// P7.2: patterns of each kind of node.
func TestPatterns(t *testing.T) {
	sound(t, `f(1, a, X, _, "t", {}, {1, Y}, [], [1, Y], [X | Z]) -> {X, Y, Z}.`, "f(A = B, {C = 1}, -1, {-1, [-2 | -3]}) -> {A, B, C}.", "f(_, _, {_, [_ | _]}) -> 1.", "f((A = B) = (C = D)) -> {A, B, C, D}.", "f(_x, _X) -> {_x, _X}.")
	wrong := []string{"^+1", "^-a", "^-X", "^- -1", "^-\"t\"", "^not true", "^1 + 2", "^1 - 2", "^X ! 1", "^\"a\" ++ X", "^1 == 1", "^a andalso b", "^a orelse b", "^f(X)", "^self()", "^hd([])", "^X(1)", "^fun f/1", "^fun () -> 1 end",
		"^case 1 of _ -> 1 end", "^if true -> 1 end", "^receive X -> X end", "^receive after 1 -> 1 end", "^try 1 catch _ : _ -> 1 end", "^[1 || true]", "^begin 1 end",
		"{1, ^1 + 1}", "[X, ^f(1)]", "[X | ^f(1)]", "X = ^+1", "(^+1) = X", "{X = {Y, ^X + Y}, f(1)}", "[[[^f()]]]", "{^-a, Y = -b}"}
	for _, p := range wrong {
		faulty(t, api.ErrPattern, "f("+p+") -> 1.", "f(1, "+p+", a + b) -> Y.", "f(X) -> case X of "+p+" when Z -> 1 end.", "f() -> receive "+p+" -> Z end.", "f() -> try 1 catch error : "+p+" -> Z end.", "f() -> fun ("+p+") -> Z end.", "f(L) -> [Z || "+p+" <- L].")
		faulty(t, api.ErrPattern, "f(L) -> "+bracketed(p)+" = L.", "f(L) -> W = "+bracketed(p)+" = L.", "f(L) -> "+bracketed(p)+" = W = L.")
	}
}

// bracketed is a pattern that stands alone on the left of a match.
func bracketed(p string) string {
	return "(" + p + ")"
}

// P7.2: guards of each kind of node.
func TestGuards(t *testing.T) {
	sound(t, `f(X) when 1, a, X, "t", {}, {X, 1}, [], [X, 1], [X | X], -1, +X, not X -> 1.`, "f(X) when X andalso X; X orelse true, X -> 1.", "f(X) when hd(X); {hd(X), [-length(tl(X)) | abs(X)]} == X -> 1.", "f(X) when '+'(X, 1), 'not'(X), '-'(X), 'xor'(X, X) -> 1.")
	for known, kind := range table {
		arguments := row(known.arity, "X")
		if kind == lint.Guards {
			sound(t, "f(X) when '"+known.name+"'("+arguments+") -> 1.")
		} else {
			faulty(t, api.ErrGuard, "f(X) when ^'"+known.name+"'("+arguments+") -> 1.", "f(X) when X, {X, ^'"+known.name+"'("+arguments+")} -> Y.")
		}
	}
	for _, sign := range strings.Fields("== /= =:= =/= < =< > >= + - or xor * div rem and andalso orelse") {
		sound(t, "f(X) when X "+sign+" 1 -> 1.")
		faulty(t, api.ErrGuard, "f(X) when ^self() "+sign+" X -> 1.", "f(X) when X "+sign+" ^self() -> 1.")
		faulty(t, api.ErrFree, "f(X) when X "+sign+" ^Y -> 1.", "f(X) when ^Y "+sign+" self() -> 1.", "f(X) when X; X "+sign+" ^_ -> 1.")
	}
	wrong := []string{"^X = 1", "^X ! 1", "^X ++ X", "^X -- X", "^f(X)", "^X(1)", "^1(X)", "^hd(X)(X)", "^hd()", "^hd(X, X)", "^'andalso'(X, X)", "^'orelse'(X, X)", "^fun f/1", "^(fun f/1)(X)", "^fun () -> 1 end", "^case X of _ -> 1 end", "^if X -> 1 end", "^receive X -> 1 end", "^receive after X -> 1 end", "^try X catch _ : _ -> 1 end", "^[1 || X]", "^[Y || Y <- X]", "^begin X end",
		"^\"hd\"(X)", "^fun hd/1(X)", "^(-X)(X)", "^(X + X)(X, X)", "^hd(" + row(13, "X") + ")", "{1, ^self()}", "{^self(), Y}", "[1, ^self()]", "[X | ^self()]", "hd(^self())", "element(X, ^self())", "-(^self())", "not (^self())", "[[{^f(X)}]]", "1, X, ^self(), Y", "X; X; ^self(); Y", "^f(Y)", "^Y(X)"}
	for _, g := range wrong {
		faulty(t, api.ErrGuard, "f(X) when "+g+" -> Z.", "f(X) -> fun () when "+g+" -> Z end.", "f(X) -> case X of _ when "+g+" -> Z end.", "f(X) -> if "+g+" -> Z end.", "f(X) -> receive 1 -> 2; _ when "+g+" -> Z end.", "f(X) -> try 1 catch _ : _ when "+g+" -> Z end.")
	}
}

// P7.2: names in guards.
func TestNamesInGuards(t *testing.T) {
	sound(t, "f(X) -> case 1 of Y when X, Y -> 1 end.", "f(X) -> fun (Y) when X, Y -> 1 end.", "f(X) -> Y = X, if X, Y -> 1 end.", "f(X) -> receive Y when {X, Y} -> 1 end.", "f(X) -> try 1 catch C : R when {C, R, X} -> 1 end.")
	faulty(t, api.ErrFree, "f(X) when ^_ -> 1.", "f(X) when X; ^Y -> 1.", "f(X) -> case X of Y when ^Z -> Z = 1 end.", "f() -> if ^X -> X = 1 end.", "f(X) when {1, [X | ^Y]} -> 1.", "f(X) when hd(^Y) -> 1.", "f(_) -> fun (X) -> X; (Y) when ^X -> Y end.")
	faulty(t, api.ErrUnsafe, "f(X) -> case X of Y -> 1; _ when ^Y -> 1 end.", "f(X) -> begin Y = X end, if ^Y -> 1 end.", "f(X) -> try Y = X catch _ : _ when ^Y -> 1 end.", "f(X) -> receive Y -> Y; Z when Z == ^Y -> 1 end.", "f(X) -> begin Y = X end, fun () when ^Y -> 1 end.")
}

// P7.2: matches in bodies: first their right sides, then their patterns.
func TestMatches(t *testing.T) {
	sound(t, "f(X) -> X = 1, X.", "f(X) -> Y = X, Y.", "f() -> 1 = 2.", "f() -> A = B = 1, {A, B}.", "f() -> A = B = C = 1, {A, B, C}.", "f() -> A = (B = 1), {A, B}.", "f() -> (A = B) = 1, {A, B}.", "f() -> {A, A} = {B, _} = 1, {A, B}.", "f() -> A = 1, A = A = A.", "f() -> _ = 1, _ = 2.",
		"f() -> fun () -> A = B = 1, {A, B} end.", "f() -> begin A = B = 1, {A, B} end.", "f() -> receive after 1 -> A = B = 1, {A, B} end.", "f() -> try A = B = 1, {A, B} catch _ : _ -> C = D = 1, {C, D} end.", "f() -> X = fun () -> Y = 1, Y end, X.")
	faulty(t, api.ErrFree, "f() -> X = ^X.", "f() -> A = B = ^A.", "f() -> A = B = ^B.", "f() -> ^X, X = 1.", "f() -> g() = ^Z.", "f() -> A = {1, ^A}.", "f() -> _ = 1, ^_.", "f() -> A = ^B, B = 1.", "f() -> X = fun () -> ^X end.")
	faulty(t, api.ErrPattern, "f(X) -> {^Y = X, 1}.", "f(X) -> ^g(X) = 1.", "f() -> A = {^B = 1}.", "f() -> [1 | ^A = 1].", "f() -> -(^A = 1).", "f() -> 1 + (^A = 1).", "f() -> (^A = 1) + X.", "f() -> f() ! (^A = 1).", "g(_) -> g(^A = 1).", "f(F) -> F(^A = 1).", "f() -> (^A = 1)(2).", "f() -> case ^A = 1 of _ -> A end.",
		"f(L) -> [X || X <- ^Y = L].", "f(L) -> [X || X <- L, ^Y = X].", "f(L) -> [^Y = X || X <- L].", "f() -> receive after ^A = 1 -> A end.", "f() -> A = f() ! (^B = 1).", "f() -> f() = ^g() = 1.", "f() -> ^f() = g = 1.", "f() -> A = {^X = Y}.", "f() -> not (^_ = 1).")
}

// P7.2: names that have been bound by a part behind which they are not in scope, and are asked for behind it.
func TestUnsafe(t *testing.T) {
	for _, part := range []string{"case 1 of Y -> 1 end", "case 1 of {1, [_ | Y]} -> 1 end", "case 1 of 1 -> Y = 1 end", "case 1 of 1 -> 1; 2 -> Y = 1; 3 -> 1 end", "if true -> Y = 1 end", "if true -> Z = Y = 2 end", "receive Y -> 1 end", "receive 1 -> Y = 1 end", "receive Y -> 1 after 1 -> 1 end", "receive Y -> 1 after 1 -> Y = 1 end",
		"try Y = 1 catch _ : _ -> 1 end", "try 1 catch Y : _ -> 1 end", "try 1 catch _ : Y -> 1 end", "try 1 catch _ : _ -> Y = 1 end", "begin Y = 1 end", "begin X = 1, {X, Y} = 2 end", "begin begin Y = 1 end end",
		"case begin Y = 1 end of _ -> 1 end", "case 1 of 1 -> begin Y = 1 end end", "{begin Y = 1 end}", "[1 | begin Y = 1 end]", "self() ! begin Y = 1 end", "self()(begin Y = 1 end)", "(begin Y = 1 end)()", "-begin Y = 1 end", "Z = begin Y = 1 end", "receive after begin Y = 1 end -> 1 end", "receive after 1 -> begin Y = 1 end end", "receive after 1 -> begin Y = 1 end, Y = 2 end",
		"case 1 of Y -> fun (Y) -> Y end end"} {
		faulty(t, api.ErrUnsafe, "f() -> "+part+", ^Y.", "f() -> "+part+", {1, fun () -> [^Y] end}.", "f() -> "+part+", [^Y || _ <- []].", "f() -> "+part+", [1 || _ <- ^Y].", "f() -> "+part+", begin ^Y end.", "f() -> "+part+", W = ^Y.", "f() -> "+part+", fun (Y) -> Y end, [Y || Y <- []], ^Y.", "f() -> "+part+", receive after 1 -> Y = 1 end, ^Y.", "f() -> "+part+", case ^Y of Y -> 1 end.",
			"f() -> fun () -> "+part+", ^Y end.", "f() -> [1 || _ <- [], fun () -> "+part+", ^Y end].", "f() -> fun () -> "+part+" end, begin Y = 1 end, ^Y.")
		sound(t, "f() -> "+part+", Y = 1, Y.", "f() -> "+part+", case 1 of Y -> Y end.", "f() -> "+part+", fun (Y) -> Y end.", "f() -> "+part+", [Y || Y <- []].", "f(Y) -> "+part+", Y.", "f() -> Y = 1, "+part+", Y.", "f(Y) -> begin "+part+", Y end, Y.", "f(Y) -> begin begin "+part+" end, Y end, Y.", "f() -> fun (Y) -> "+part+", Y end.", "f() -> [{"+bare(part)+", Y} || Y <- []].")
		faulty(t, api.ErrFree, "f() -> fun () -> "+part+" end, ^Y.", "f() -> fun () -> "+part+"; () -> ^Y end.", "f() -> [fun () -> "+part+" end || _ <- []], ^Y.", "f() -> "+part+"; f() -> ^Y.")
	}
	faulty(t, api.ErrUnsafe, "f() -> {begin Y = 1 end, ^Y}.", "f() -> case begin Y = 1 end of 1 -> ^Y end.", "f() -> case 1 of Y -> 1; 2 -> ^Y end.", "f() -> if true -> Y = 1; true -> ^Y end.", "f() -> receive Y -> Y; 2 -> ^Y end.", "f() -> try Y = 1, Y catch error : E -> ^Y end.", "f() -> try 1 catch error : E -> E; exit : 1 -> ^E end.", "f() -> begin Y = 1 end, Y = ^Y.", "f() -> [^Y || X <- begin Y = 1 end].", "f() -> [X || X <- [], begin Y = 1 end, ^Y].",
		"f() -> case 1 of 1 -> case 2 of Y -> 1 end, ^Y end.", "f() -> case 1 of 1 -> 1; 2 -> begin Y = 1 end, ^Y end.", "f() -> receive after begin Y = 1 end -> ^Y end.", "f() -> begin Y = 1 end, case 1 of 1 -> Y = 1, Y end, ^Y.")
	faulty(t, api.ErrFree, "f() -> ^Y, begin Y = 1 end.", "f() -> {^Y, begin Y = 1 end}.", "f() -> case ^Y of Y -> 1 end.", "f() -> begin ^Y, Y = 1 end.", "f() -> case 1 of 1 -> ^Y; Y -> 1 end.", "f() -> try ^E catch _ : E -> 1 end.")
}

// bare is a part that may stand within others: what is bound there is not asked for.
func bare(part string) string {
	return "fun () -> " + part + " end"
}

// P7.2: what is in scope in each part of a case, an if, a receive, a try, a begin.
func TestScopes(t *testing.T) {
	sound(t, "f(X) -> case X of X -> X end.", "f(X) -> case X of {X, Y} when Y > X -> {X, Y}; Y when X == Y -> {X, Y} end.", "f(X) -> Y = X, case X of Y -> Y end, Y.", "f(X) -> begin case X of X -> X end, X end.", "f(X) -> fun () -> case X of X -> X end, X end.", "f(X) -> [{case Y of X -> X; Y -> Y end, X, Y} || Y <- X].",
		"f() -> case 1 of 1 -> Y = 1, Y; 2 -> Y = 2, Y end.", "f(X) -> if X -> Y = 1, Y; true -> Y = 2, Y end.", "f() -> receive X -> X; {X, Y} -> {X, Y} after 1 -> X = 1, X end.", "f() -> try X = 1, X catch C : R -> {C, R}; throw : X -> X; X : X -> X end.", "f() -> begin X = 1, begin Y = X, {X, Y} end, X end.", "f(X) -> begin X end, X.", "f(X) -> begin X = 1 end, X.", "f(X) -> try X = 1 catch X : X -> X end, X.")
	faulty(t, api.ErrFree, "f() -> case 1 of X when ^Y -> X end.", "f() -> case 1 of X -> ^Y end.", "f() -> begin ^X end.", "f() -> try ^X catch _ : _ -> 1 end.", "f() -> try 1 catch _ : _ -> ^X end.", "f() -> receive 1 -> ^X end.", "f() -> if true -> ^X end.", "f() -> if true -> 1; ^X -> 1 end.", "f() -> case ^X of _ -> Y end.", "f() -> {a, [1, ^X]}.", "f() -> [1 | ^X].", "f() -> not ^X.", "f() -> ^X ! Y.", "f() -> 1 + ^_.")
}

// P7.2: what stands after the clauses of a receive.
func TestAfter(t *testing.T) {
	sound(t, "f(T) -> receive after T -> T end.", "f(T) -> receive X -> X after T -> X = T, X end.", "f() -> receive after 1 -> Y = 1, Y end.", "f() -> receive after 1 -> Y = 1 end, Y = 2, Y.", "f(Y) -> receive after Y -> Y = 1 end, Y.", "f(Y) -> receive after 1 -> begin Y = 1 end end, Y.")
	faulty(t, api.ErrUnsafe, "f() -> receive X -> X after ^X -> 1 end.", "f() -> receive X -> X after 1 -> ^X end.", "f() -> receive 1 -> X = 1 after ^X -> X end.", "f() -> receive 1 -> Y = 1 after 1 -> Y = 2 end, ^Y.", "f() -> receive after begin Y = 1 end -> ^Y end.")
	faulty(t, api.ErrFree, "f() -> receive X -> X after ^T -> 1 end.", "f() -> receive after ^T -> T = 1 end.", "f() -> receive after 1 -> ^X end.", "f() -> receive after ^_ -> 1 end.", "f() -> receive after ^X -> Y end.", "f() -> receive X -> ^Y after Z -> 1 end.")
	// An after is no clause, and its body is neither a try's nor a begin's.
	faulty(t, api.ErrFree, "f() -> receive after 1 -> Y = 1 end, ^Y.", "f() -> receive X -> X after 1 -> Y = 1 end, ^Y.", "f() -> receive after 1 -> Y = Z = 1, Y end, {^Z, Y}.", "f() -> {receive after 1 -> Y = 1 end, ^Y}.")
	faulty(t, api.ErrCall, "f() -> receive after ^g() -> X end.", "f() -> receive after 1 -> ^g(), X end.")
	faulty(t, api.ErrPattern, "f() -> receive ^f() -> 1 after X -> 1 end.", "f() -> receive after 1 -> {^Y = 1} end.")
}

// P7.2: funs.
func TestFuns(t *testing.T) {
	sound(t, "f() -> fun () -> 1 end.", "f(X) -> fun (X) -> X end, X.", "f(X) -> fun ({X, Y}, [X | Z]) when X > Y -> {X, Y, Z}; (_, _) -> X end.", "f(X) -> fun (Y) -> fun (X) -> {X, Y} end end.", "f() -> fun (X) -> Y = X, Y; (Y) -> Y end.", "f() -> fun ("+row(12, "_")+") -> 1 end.", "f() -> fun () -> Y = 1, Y end, Y = 2, Y.", "f(X) -> X(fun (Y) -> Y end).")
	faulty(t, api.ErrFree, "f() -> fun (X) -> X end, ^X.", "f() -> fun () -> X = 1 end, ^X.", "f() -> fun (X) -> X; (Y) -> ^X end.", "f() -> fun () -> X = 1; () -> ^X end.", "f() -> {fun (X) -> X end, ^X}.", "f() -> (fun (X) -> X end)(^X).", "f() -> fun () -> ^Y end, Y = 1.", "f() -> fun (_) -> ^_ end.", "f() -> fun (X) when ^Y -> X end.", "f() -> fun () -> begin Y = 1 end; () -> ^Y end.", "f() -> fun () -> begin Y = 1 end end, ^Y.")
	faulty(t, api.ErrUnsafe, "f() -> fun () -> begin Y = 1 end, ^Y end.", "f() -> begin Y = 1 end, fun (X) -> {X, ^Y} end.", "f() -> begin Y = 1 end, fun (Y) -> Y end, ^Y.", "f() -> begin Y = 1 end, fun () -> Y = 1, Y; () -> ^Y end.")
	fun := func(patterns int) string { return "(" + row(patterns, "_") + ") -> 1" }
	faulty(t, api.ErrArity, "f() -> fun "+fun(1)+"; ^"+fun(0)+" end.", "f() -> fun () -> X; ^(1) -> 1 end.", "f() -> fun (a + b) -> 1; ^() -> 1 end.", "f() -> fun "+fun(1)+"; "+fun(1)+"; ^"+fun(2)+"; "+fun(13)+" end.", "f(_) -> fun () -> 1; ^(_) -> 1 end.", "f() -> fun () -> fun () -> 1; (1) -> 1 end; ^(1) -> 1 end.")
	faulty(t, api.ErrMany, "f() -> fun ^"+fun(13)+" end.", "f() -> fun ^"+fun(13)+"; () -> 1 end.", "f() -> fun () -> X; ^"+fun(13)+" end.", "f() -> fun "+fun(12)+"; ^"+fun(13)+" end.", "f() -> fun ^"+fun(300)+"; "+fun(300)+" end.", "f() -> fun (a + b) -> 1; ^"+fun(13)+"; () -> 1 end.")
	faulty(t, api.ErrFree, "f() -> ^X, fun () -> 1; (1) -> 1 end.", "f() -> {^X, fun "+fun(13)+" end}.", "f() -> fun () -> ^X, fun () -> 1; (1) -> 1 end end.")
}

// P7.2: comprehensions.
func TestComprehensions(t *testing.T) {
	sound(t, "f(L) -> [X || X <- L, X > 1].", "f(L) -> [{X, Y} || X <- L, Y <- X].", "f(L) -> [X || X <- L, X <- X].", "f(X) -> [X || X <- X], X.", "f(L) -> [X || {X, [X | Y]} <- L, Y].", "f() -> [1 || true].", "f(L) -> [X || true, X <- L].", "f(L) -> [fun (X) -> X end || X <- L].", "f(L) -> [[{X, Y} || Y <- X] || X <- L].", "f(X) -> [begin Y = X, Y end || _ <- X].", "f(L) -> [X || X <- L], X = 1, X.", "f(L) -> [X || -1 = X <- L].")
	faulty(t, api.ErrFree, "f(L) -> [X || X <- L], ^X.", "f(L) -> [X || X <- ^X].", "f(L) -> [^Y || X <- L].", "f(L) -> [X || X <- L, ^Y, Y <- X].", "f(L) -> [X || ^X, X <- L].", "f(L) -> [{X, Y} || X <- ^Y, Y <- X].", "f(L) -> {[X || X <- L], ^X}.", "f(L) -> [_ || _ <- ^_].", "f(L) -> [^_ || _ <- L].", "f(L) -> [X || X <- L, [Y || Y <- X], ^Y].", "f(L) -> [X || X <- begin Y = L, Y end], ^Y.", "f(L) -> [begin Y = X end || X <- L], ^Y.", "f(L) -> [X || X <- L, case X of Y -> Y end], ^Y.", "f(L) -> [[Y || Y <- X] || X <- ^Y].")
	faulty(t, api.ErrUnsafe, "f(L) -> [^Y || X <- begin Y = L end].", "f(L) -> [{Y, Z} || X <- begin Y = L end, Y <- begin Z = X end, ^Z].", "f(L) -> [{begin Y = L end, ^Y} || X <- L].", "f(L) -> begin X = L end, [X || X <- ^X].", "f(L) -> begin X = L end, [X || X <- L], ^X.")
	faulty(t, api.ErrPattern, "f(L) -> [Y || ^f(X) <- L].", "f(L) -> [Z || X <- L, ^X + Y <- X, Z].", "f(L) -> [Y || ^a + b <- L, Z].")
	faulty(t, api.ErrFree, "f(L) -> [X || f(X) <- ^Y].", "f(L) -> [Z || X <- L, ^Y].", "f(L) -> [Z || X <- ^Y, g()].")
	faulty(t, api.ErrCall, "f(L) -> [Y || X <- L, ^g(X)].", "f(L) -> [Y || X <- ^g(L)].", "f(L) -> [^g(X) || X <- L].", "f(L) -> [g(X) || X <- ^h(L)].")
}

// P7.2: calls, of as many arguments as may be and of one more.
func TestCalls(t *testing.T) {
	f := func(arity int) string { return "f(" + row(arity, "_") + ") -> 1. " }
	for arity := range 13 {
		sound(t, f(arity)+"g() -> f("+row(arity, "1")+").", f(arity)+"g() -> fun f/"+digits(arity)+".", "g(F) -> F("+row(arity, "1")+").", "g() -> 1("+row(arity, "1")+").", "g() -> g()("+row(arity, "1")+").")
		faulty(t, api.ErrCall, f(arity)+"g() -> ^f("+row((arity+1)%13, "1")+").", f(arity)+"g() -> ^fun f/"+digits(arity+1)+".", "g() -> ^f("+row(arity, "X")+").")
	}
	faulty(t, api.ErrMany, "f() -> ^f("+row(13, "X")+").", "f() -> ^g("+row(13, "1")+").", "f(F) -> ^F("+row(13, "X")+").", "f() -> ^F("+row(13, "1")+").", "f() -> ^1("+row(300, "X")+").", "f() -> ^hd("+row(13, "1")+").", "f(F) -> ^F(X)("+row(13, "1")+").", "f() -> ^{X}("+row(13, "1")+").", "f() -> ^(X + 1)("+row(13, "1")+").")
	faulty(t, api.ErrCall, "f() -> ^g().", "f() -> ^f(1).", "f() -> ^f(X).", "f(G) -> ^g(G).", "f() -> ^hd().", "f() -> ^hd(1, 2).", "f() -> ^'andalso'(1, 2).", "f() -> ^'F'().", "f() -> ^''().", "f() -> ^g()(X).", "f() -> {1, ^g()}.", "f(_) -> f(^g()).", "f() -> ^print(1, 2).", "f() -> 1 + ^g().", "f() -> X = ^g(), Y.", "f() -> 'if'(), 1. 'if'() -> ^'end'().",
		"f() -> ^fun f/1.", "f() -> ^fun hd/1.", "f() -> ^fun self/0.", "f() -> ^fun g/0.", "f() -> ^fun f/255.", "f() -> (^fun g/1)(X).", "f() -> ^fun '+'/2.", "f() -> spawn(^fun g/0).")
	faulty(t, api.ErrFree, "f() -> ^F(X).", "f(F) -> F(^X, Y).", "f(F) -> F(1)(^X).", "f(_) -> f(^X).", "f() -> hd(^X).", "f() -> 1(^X).", "f() -> {^X}(Y).", "f(F) -> F(1, ^X, g()).", "f() -> f()(^X).", "f() -> ^_(1).")
	faulty(t, api.ErrPattern, "f() -> hd(^X = 1).", "f() -> {^X = 1}(Y).")
	sound(t, "f() -> g(). g() -> f().", "f() -> f().", "f() -> fun f/0(). g() -> (fun g/0)().", "f(F) -> F()()(1)(2, 3).", "f() -> a, 'f'().", "f() -> \"t\"(1), {}(2), [](3).", "f() -> \"hd\"(1, 2), \"g\"().", "hd() -> hd(). f() -> fun hd/0.", "f() -> begin f() end().", "f() -> case 1 of _ -> f() end(2).")
	for known := range table {
		sound(t, "f(X) -> '"+known.name+"'("+row(known.arity, "X")+").")
		if known.arity > 0 {
			faulty(t, api.ErrFree, "f(X) -> '"+known.name+"'("+row(known.arity-1, "X")+strings.Repeat(", ", min(1, known.arity-1))+"^Y).")
		}
	}
}

func digits(n int) string {
	return string([]byte{byte('0' + n/10), byte('0' + n%10)})
}

// P7.2: operators are expressions of their kids, whatever these are.
func TestOperators(t *testing.T) {
	for _, sign := range strings.Fields("! orelse andalso == /= =:= =/= < =< > >= ++ -- + - or xor * div rem and") {
		sound(t, "f(X) -> X "+sign+" X.", "f(X) -> self() "+sign+" fun () -> X end.")
		faulty(t, api.ErrFree, "f(X) -> X "+sign+" ^Y.", "f(X) -> ^Y "+sign+" Z.", "f() -> begin X = 1, X end "+sign+" ^Y.")
		faulty(t, api.ErrUnsafe, "f() -> begin X = 1 end "+sign+" ^X.")
		faulty(t, api.ErrCall, "f() -> ^g() "+sign+" X.")
	}
	for _, sign := range strings.Fields("- + not") {
		sound(t, "f(X) -> "+sign+" X.")
		faulty(t, api.ErrFree, "f() -> "+sign+" ^X.")
		faulty(t, api.ErrPattern, "f() -> "+sign+" (^X = 1).")
	}
}
