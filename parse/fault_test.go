package parse_test

import (
	"strings"
	"testing"

	"pigeonhole/api"
	"pigeonhole/node"
	"pigeonhole/parse"
)

// The chapter's examples.
func TestExamples(t *testing.T) {
	parsed(t, ofItems, "1 + 2 * -X", "+2@0(1@0 *2@4(2@4 -1@8(X@9)))")
	parsed(t, ofItems, "a ! b ! c", "!2@0('a@0 !2@4('b@4 'c@8))")
	parsed(t, ofItems, "A = B = 1", "match@0(A@0 match@4(B@4 1@8))")
	parsed(t, ofItems, "f(X)(Y)", "call@0(call@0('f@0 X@2) Y@5)")
	m, fault := parse.Module("f(X) when X > 1; X == a -> X; f(_) -> [H || {H, _} <- g(1)].")
	if fault != (api.Fault{}) || len(m.Kids) != 1 || len(m.Kids[0].Kids) != 2 {
		t.Errorf("%v, %s", fault, told(m))
	}
	for s, at := range map[string]int{"": 0, "a b": 2, "1 == 2 == 3": 7, "[a, b || c]": 6, "fun f/256": 6, "receive end": 8} {
		faulty(t, ofItems, s, api.ErrSyntax, at)
	}
	faulty(t, ofModules, "f() -> a; g() -> b.", api.ErrSyntax, 10)
	faulty(t, ofModules, "f() -> a", api.ErrSyntax, 8)
	faulty(t, ofModules, "f( -> 1.", api.ErrSyntax, 3)
}

// wrongItems are no items; where the first wrong token stands.
var wrongItems = map[string]int{
	"": 0, " ": 1, "% a": 3, ")": 0, "a)": 1, "(": 1, "()": 1, "(a": 2, "(a, b)": 2, "(a; b)": 2, "a,": 1, "a, b": 1, "a; b": 1, "a.": 1, ".": 0, "a . b": 2, "a b": 2, "1 2": 2, "a 'b'": 2, `a "b"`: 2, "X Y": 2,
	"{": 1, "{,": 1, "{a": 2, "{a,": 3, "{a,}": 3, "{a b}": 3, "{a; b}": 2, "{a | b}": 3, "{a || b}": 3, "}": 0, "{)": 1, "{]": 1, "{a]": 2,
	"[": 1, "[,": 1, "[a": 2, "[a,]": 3, "[|": 1, "[|a]": 1, "[||": 1, "[|| a]": 1, "[a |": 4, "[a |]": 4, "[a | b, c]": 6, "[a | b | c]": 7, "[a | b || c]": 7, "[a, b || c]": 6, "[a ||]": 5, "[a || b,]": 8, "[a || b | c]": 8, "[a || b || c]": 8, "[a || X <-]": 10, "[a || X <- b <- c]": 13, "[a <- b]": 3, "[a || <- b]": 6, "[a || b; c]": 7, "[a}": 2,
	"a <- b": 2, "a | b": 2, "a || b": 2, "a : b": 2, "a -> b": 2, "a / b": 2, "when a": 0, "a when b": 2, "catch a": 0, "after": 0, "of": 0, "end": 0, "a end": 2,
	"f(": 2, "f(,": 2, "f(a": 3, "f(a,)": 4, "f(a b)": 4, "f(a; b)": 3, "f(a}": 3, "f()a": 3, "f() ()()(": 9,
	"=": 0, "a =": 3, "= a": 0, "a = = b": 4, "a == = b": 5, "a == b == c": 7, "a < b > c": 6, "a =:= b =/= c": 8, "a orelse b == c < d": 16, "a ++ b == c == d": 12, "a == b ++ c == d": 12, "a = b == c == d": 11, "not a == b == c": 11, "a == - b == c": 9, "a ! b == c /= d": 11, "a == b andalso c == d == e": 22,
	"-": 1, "not": 3, "- * a": 2, "a + * b": 4, "a not b": 2, "* a": 0, "a div": 5, "! a": 0, "a ! !": 4, "a ++ ++ b": 5, "a -- -": 6,
	"fun": 3, "fun X": 4, "fun f": 5, "fun f/": 6, "fun f/X": 6, "fun f/a": 6, `fun f/"1"`: 6, "fun f/'1'": 6, "fun f/-1": 6, "fun f/(1)": 6, "fun f 1": 6, "fun f(": 5, "fun f() -> a end": 5, "fun 1/1": 4, "fun f/1/1": 7, "fun f/1 end": 8, "fun f/1 2": 8, "fun (": 5, "fun ()": 6, "fun () a": 7, "fun () ->": 9, "fun () -> end": 10, "fun () -> a": 11, "fun () -> a; end": 13, "fun () -> a; f() -> b end": 13, "fun () -> a; () -> b": 20, "fun () when -> a end": 12, "fun () when a; -> b end": 15, "fun () when a -> b when c end": 19, "fun end": 4, "fun () -> a; b -> c end": 13, "fun (X) X -> a end": 8, "fun (a;": 6, "fun () -> a.": 11,
	"case": 4, "case a": 6, "case a end": 7, "case of": 5, "case a of": 9, "case a of end": 10, "case a of b": 11, "case a of b end": 12, "case a of b ->": 14, "case a of b -> end": 15, "case a of b -> c": 16, "case a of b -> c;": 17, "case a of b -> c; end": 18, "case a, b of c -> d end": 6, "case a of b, c -> d end": 11, "case a of b; c -> d end": 11, "case a of b when -> c end": 17, "case a of when b -> c end": 10, "case a of b -> c after 1 -> d end": 17, "case a of b -> c catch": 17, "case a of b -> c, end": 18,
	"if": 2, "if end": 3, "if ->": 3, "if a": 4, "if a end": 5, "if a ->": 7, "if a -> end": 8, "if a -> b": 9, "if a -> b;": 10, "if a -> b; end": 11, "if a, -> b end": 6, "if a; -> b end": 6, "if a when b -> c end": 5, "if when a -> b end": 3, "if a -> b, c; d, e; f end": 22,
	"receive": 7, "receive end": 8, "receive a": 9, "receive a end": 10, "receive a ->": 12, "receive a -> b": 14, "receive a -> b;": 15, "receive a -> b; end": 16, "receive a -> b; after 1 -> c end": 16, "receive after": 13, "receive after end": 14, "receive after 1": 15, "receive after 1 end": 16, "receive after 1 -> end": 19, "receive after 1 -> a": 20, "receive after 1 -> a; b -> c end": 20, "receive after 1 -> a after 2 -> b end": 21, "receive after 1 when a -> b end": 16, "receive a, b -> c end": 9, "receive after 1, 2 -> a end": 15, "receive ; a -> b end": 8,
	"try": 3, "try catch": 4, "try a": 5, "try a end": 6, "try a catch": 11, "try a catch end": 12, "try a catch 1": 12, "try a catch (a) : b -> c end": 12, `try a catch "a" : b -> c end`: 12, "try a catch {a, b} -> c end": 12, "try a catch b": 13, "try a catch b -> c end": 14, "try a catch b :": 15, "try a catch b : -> c end": 16, "try a catch b : c end": 18, "try a catch b : c ->": 20, "try a catch b : c -> d": 22, "try a catch b : c -> d; end": 24, "try a catch b : c -> d; e -> f end": 26, "try a catch b : c : d -> e end": 18, "try a of b -> c end": 6, "try a; b catch c : d -> e end": 5, "try a catch b, c : d -> e end": 13, "try a catch b + c : d -> e end": 14, "try a catch f() : d -> e end": 13, "try a catch b : c -> d after e end": 23,
	"begin": 5, "begin end": 6, "begin a": 7, "begin a,": 8, "begin a, end": 9, "begin a; b end": 7, "begin a end end": 12, "begin a end b": 12,
	"'a' '('": 4, "{a '}'": 3, "f'('a)": 1, `f "(" a)`: 2, "a '+' b": 2, "'case' a of b -> c end": 7, "case a 'of' b -> c end": 7, "fun f '/' 1": 6, "begin a 'end'": 8, "[a '|' b]": 3, "a '=' b": 2, "'-' a": 4, "'not' a": 6, "a '.'": 2,
}

// wrongModules are no modules.
var wrongModules = map[string]int{
	"a": 1, "1": 0, "X": 0, ".": 0, "(": 0, "f": 1, "f.": 1, "f(": 2, "f()": 3, "f().": 3, "f() ->": 6, "f() -> .": 7, "f() -> a": 8, "f() -> a b.": 9, "f() -> a,.": 9, "f() -> a, .": 10, "f() -> a; .": 10, "f() -> a;": 9, "f() -> a. .": 10, "f() -> a. 1": 10, "f() -> a. f": 11, "f() -> a end.": 9, "f() -> a. end": 10,
	"X() -> a.": 0, "1() -> a.": 0, `"f"() -> a.`: 0, "if() -> a.": 0, "(f)() -> a.": 0, "-f() -> a.": 0, "f = a.": 2, "f -> a.": 2, "f() = a.": 4, "f() a.": 4, "f()() -> a.": 3, "f(,) -> a.": 2, "f(a,) -> b.": 4, "f(a; b) -> c.": 3, "f(a | b) -> c.": 4, "f( -> 1.": 3,
	"f() when -> a.": 9, "f() when a": 10, "f() when a; -> b.": 12, "f() when a, -> b.": 12, "f() when a when b -> c.": 11, "f() if a -> b.": 4, "when a -> b.": 0,
	"f() -> a; g() -> b.": 10, "f() -> a; f() -> b; g() -> c.": 20, "f() -> a; F() -> b.": 10, "f() -> a; () -> b.": 10, "f() -> a; 'F'() -> b.": 10, "f() -> a; f -> b.": 12, "'X'() -> a; X() -> b.": 12, "'1'() -> a; 1() -> b.": 12, "'if'() -> a; if() -> b.": 13, "f() -> a; ff() -> b.": 10, "ff() -> a; f() -> b.": 11, "f() -> a; ''() -> b.": 10, "''() -> a; f() -> b.": 11, "f() -> a; g": 10, `f() -> a; "f"() -> b.`: 10, "f() -> a. g() -> b; f() -> c.": 20,
	"f() -> fun () -> a; f() -> b.": 20, "f() -> case a of b -> c; f() -> d.": 33, "f() -> fun g/256.": 13, "f() -> fun () -> a.": 18, "f() -> (a.": 9, "f() -> (a .": 10,
}

// P5.1
func TestWrongSources(t *testing.T) {
	for s, at := range wrongItems {
		faulty(t, ofItems, s, api.ErrSyntax, at)
	}
	for s, at := range wrongModules {
		faulty(t, ofModules, s, api.ErrSyntax, at)
	}
}

// P5.2: what stands behind the wrong token plays no part, but for what scan tells.
func TestBehindTheWrongToken(t *testing.T) {
	behind := func(kind kindOfSource, s string, at int) {
		for _, more := range []string{" a", " )", " end", " .", " f() -> a.", " [a || b == c == d", " fun f/256", strings.Repeat(" {", 60), " %"} {
			if at < len(s) {
				faulty(t, kind, s+more, api.ErrSyntax, at)
			}
		}
		faulty(t, kind, s+" ?", api.ErrByte, len(s)+1)
		faulty(t, kind, s+"\n'a", api.ErrToken, len(s)+1)
	}
	for s, at := range wrongItems {
		if !strings.Contains(s, "%") {
			behind(ofItems, s, at)
		}
	}
	for s, at := range wrongModules {
		behind(ofModules, s, at)
	}
	faulty(t, ofItems, "a b"+strings.Repeat(" {", 30000), api.ErrSyntax, 2)
	faulty(t, ofItems, "a b {"+strings.Repeat("a,", 30000), api.ErrSyntax, 2)
	faulty(t, ofModules, "f(. "+strings.Repeat("f() -> a. ", 6000), api.ErrSyntax, 2)
}

// P5.1: lists go on three ways behind the first item, two behind further ones.
func TestLists(t *testing.T) {
	same(t, "[a|b]", "[ a | (b) ]")
	parsed(t, ofItems, "[a, b, c | d]", "list/1@0('a@1 'b@4 'c@7 'd@11)")
	parsed(t, ofItems, "[a | [b | c]]", "list/1@0('a@1 list/1@5('b@6 'c@10))")
	parsed(t, ofItems, "[[a || b] || [c] <- [d | e]]", "comp@0(comp@1('a@2 'b@7) gen@13(list@13('c@14) list/1@20('d@21 'e@25)))")
	parsed(t, ofItems, "[(a) | (b)]", "list/1@0('a@2 'b@8)")
	parsed(t, ofItems, "[a == b || c == d, e == f <- g]", "comp@0(==2@1('a@1 'b@6) ==2@11('c@11 'd@16) gen@19(==2@19('e@19 'f@24) 'g@29))")
	faulty(t, ofItems, "[(a || b)]", api.ErrSyntax, 4)
	faulty(t, ofItems, "[a || (X <- b)]", api.ErrSyntax, 9)
}

// P5.1
func TestNamesOfFuns(t *testing.T) {
	zeros := strings.Repeat("0", 397)
	for _, s := range []string{"255", "0255", zeros + "255"} {
		parsed(t, ofItems, "fun f/"+s, "name f/255@0")
	}
	parsed(t, ofItems, "fun f/"+zeros+"000", "name f@0")
	parsed(t, ofItems, "{fun 'f'/12, fun f/7}", "tuple@0(name f/12@1 name f/7@13)")
	for _, s := range []string{"256", "0256", zeros + "256", "257", "300", "1000", "65536", "4294967296", "18446744073709551616", "18446744073709551871", strings.Repeat("9", 400)} {
		faulty(t, ofItems, "fun f/"+s, api.ErrSyntax, 6)
		faulty(t, ofItems, "{fun f/"+s+", fun", api.ErrSyntax, 7)
		same(t, "{"+s+"}", "{("+s+")}") // an int like any other, elsewhere
	}
}

// P5.1: patterns and guards are any items here, heads of any arities.
func TestWhatIsNotAskedYet(t *testing.T) {
	for _, s := range []string{"f(g(1)) -> a.", "f() when x ! y -> a.", "f(X) -> a; f() -> b; f(X, Y) -> c.", "f() -> a. f() -> b.", "f() -> X.", "f(A,A,A,A,A,A,A,A,A,A,A,A,A) -> a."} {
		if n, fault := parse.Module(s); fault != (api.Fault{}) || !node.Right(n) {
			t.Errorf("%s: %v", s, fault)
		}
	}
	for _, s := range []string{"f() = g()", "case a of if a -> b end -> c end", "fun (X) -> a; () -> b end", "[a || f() <- b]", "receive f() when a = b -> c end", "try a catch X : f() -> b end"} {
		shaped(t, s)
	}
}
