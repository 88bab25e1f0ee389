package sound_test

import (
	"math"
	"strings"
	"testing"

	"pigeonhole/api"
	"pigeonhole/sound"
)

// P9.3: each Kind's word, and what is none.
func TestWordsOfKinds(t *testing.T) {
	known := map[api.CoreKind]string{
		api.CoreConst: "const", api.CoreVar: "var", api.CoreTuple: "tuple", api.CoreCons: "cons", api.CoreLet: "let", api.CoreCall: "call", api.CoreApply: "apply", api.CoreBif: "bif", api.CoreFun: "fun", api.CoreCase: "case", api.CoreReceive: "receive", api.CoreTry: "try", api.CoreClause: "clause", api.CoreFail: "fail",
		api.PatAny: "any", api.PatBind: "bind", api.PatSame: "same", api.PatConst: "const", api.PatTuple: "tuple", api.PatCons: "cons", api.PatBoth: "both", api.GuardAll: "all", api.GuardAny: "any",
	}
	for kind := range 256 {
		want, ok := known[api.CoreKind(kind)]
		if !ok {
			want = "?"
		}
		if got := sound.Show(of(api.CoreKind(kind))); got != want {
			t.Errorf("%d: %s, not %s", kind, got, want)
		}
		if got := sound.Show(tuple(of(api.CoreKind(kind), x(1)))); got != "tuple ("+want+" (var 1))" {
			t.Errorf("%d as a Kid: %s", kind, got)
		}
	}
}

// P9.3
func TestShow(t *testing.T) {
	for want, c := range map[string]api.Core{
		"var": x(0), "var 1": x(1), "var -1": x(-1), "bind 10": bind(10), "var 9223372036854775807": x(math.MaxInt), "same -9223372036854775808": same(math.MinInt),
		"const a": a, "const 'a b'": holding(api.CoreConst, atom("a b")), "const ''": holding(api.PatConst, atom("")), "const 18446744073709551616": holding(api.CoreConst, integer(0, 0, 1)), "const -7": holding(api.CoreConst, api.Term{Kind: api.Int, Neg: true, Limbs: []uint32{7}}), "const {}": holding(api.CoreConst, api.Term{Kind: api.Tuple}), "const [0|<3>]": holding(api.CoreConst, api.Term{Kind: api.List, Items: []api.Term{integer()}, Tail: []api.Term{{Kind: api.Pid, Num: 3}}}), "const #Fun<2>": holding(api.CoreConst, api.Term{Kind: api.Fun, Num: 2, Items: []api.Term{atom("a")}}), "const 0": holding(api.CoreConst, integer()),
		"const":    holding(api.CoreConst, api.Term{}),
		"bif self": bif("self"), "bif '+' (const a) (var 1)": bif("+", a, x(1)), "bif 'div'": bif("div"), "bif '=/='": bif("=/="), "fail badmatch (var 2)": said(api.CoreFail, "badmatch", x(2)), "fail": said(api.CoreFail, ""), `fail 'A\x00\n\'\\\xff'`: said(api.CoreFail, "A\x00\n'\\\xff"), "fail '('": said(api.CoreFail, "("), "fail ' '": said(api.CoreFail, " "),
		"call 3 (tuple) (cons (var) (const a))": call(3, tuple(), of(api.CoreCons, x(0), a)), "fun (var)": fun(0, x(0)), "let 2 (var) (var 2)": let(2, x(0), x(2)), "receive 1 (var) (var)": numbered(api.CoreReceive, 1, x(0), x(0)), "try (const a) (clause (any) (any (all (var 1)) (all)) (const a))": of(api.CoreTry, a, of(api.CoreClause, wildcard, some(all(x(1)), all()), a)), "both (tuple (bind 1)) (cons (same 1) (any))": both(pats(bind(1)), cons(same(1), wildcard)), "apply (apply (apply))": of(api.CoreApply, of(api.CoreApply, of(api.CoreApply))),
		"clause 'Text' -5 [] (? 'if' 6 {a} (?))": {Kind: api.CoreClause, Text: "Text", Num: -5, Term: api.Term{Kind: api.List}, Kids: []api.Core{{Text: "if", Num: 6, Term: api.Term{Kind: api.Tuple, Items: []api.Term{atom("a")}}, Kids: []api.Core{{}}}}},
		"tuple (var -1 (var -1 (var -1)))":       tuple(numbered(api.CoreVar, -1, numbered(api.CoreVar, -1, x(-1)))),
	} {
		if got := sound.Show(c); got != want {
			t.Errorf("%s, not %s", got, want)
		}
	}
}

// P9.3: a Text that is longer than an atom's is written as nothing, but behind its blank, as it is there.
func TestShowOfLongTexts(t *testing.T) {
	for _, n := range []int{1, 39, 40, 41, 42, 100, 1 << 20} {
		for _, letter := range []string{"a", "\x00", "\xff", " "} {
			text := strings.Repeat(letter, n)
			shown := map[string]string{"a": " " + text, "\x00": " '" + strings.Repeat(`\x00`, n) + "'", "\xff": " '" + strings.Repeat(`\xff`, n) + "'", " ": " '" + text + "'"}[letter]
			if n > 40 {
				shown = " "
			}
			for want, c := range map[string]api.Core{
				"bif" + shown:                           bif(text),
				"fail" + shown + " (fail" + shown + ")": said(api.CoreFail, text, said(api.CoreFail, text)),
				"var" + shown + " -3 a (any)":           {Kind: api.CoreVar, Text: text, Num: -3, Term: atom("a"), Kids: []api.Core{wildcard}},
				"const" + shown + " ''":                 {Kind: api.CoreConst, Text: text, Term: atom("")},
				"const" + shown + " 7":                  {Kind: api.CoreConst, Text: text, Num: 7, Term: atom(strings.Repeat("a", 41))},
				"?" + shown + " (var)":                  {Text: text, Term: api.Term{Text: text}, Kids: []api.Core{x(0)}},
			} {
				if got := sound.Show(c); got != want {
					t.Errorf("%d bytes: %.200q", n, got)
				}
			}
		}
	}
}

// P9.3: the blanks of long Texts, written out.
func TestShowOfLongTextsWrittenOut(t *testing.T) {
	long := strings.Repeat("a", 41)
	for want, c := range map[string]api.Core{
		"fail ":                  said(api.CoreFail, strings.Repeat("\x00", 41)),
		"fail  (fail ) (fail)":   said(api.CoreFail, long, said(api.CoreFail, long), said(api.CoreFail, "")),
		"bif  3 (var)":           {Kind: api.CoreBif, Text: long, Num: 3, Kids: []api.Core{x(0)}},
		"tuple  {} (bif  (any))": {Kind: api.CoreTuple, Text: long, Term: api.Term{Kind: api.Tuple}, Kids: []api.Core{bif(long, wildcard)}},
	} {
		if got := sound.Show(c); got != want {
			t.Errorf("%q, not %q", got, want)
		}
	}
}

// P9.3: a Term that is not right has no text.
func TestShowOfTermsWithoutText(t *testing.T) {
	loop := make([]api.Term, 1)
	loop[0] = api.Term{Kind: api.Tuple, Items: loop}
	for i, wrong := range []api.Term{{}, {Text: "a"}, {Kind: 8}, {Kind: api.Int, Neg: true}, integer(0), atom(strings.Repeat("a", 41)), {Kind: api.Pid, Num: -1}, {Kind: api.Tuple, Items: make([]api.Term, 1)}, {Kind: api.List, Tail: []api.Term{atom("a")}}, {Kind: api.Tuple, Items: repeatedTerm(atom("a"), 4096)}, loop[0]} {
		for kind, word := range map[api.CoreKind]string{api.CoreConst: "const", api.PatConst: "const", api.CoreVar: "var", 99: "?"} {
			if got := sound.Show(api.Core{Kind: kind, Num: 7, Term: wrong, Kids: []api.Core{holding(kind, wrong)}}); got != word+" 7 ("+word+")" {
				t.Errorf("%d: %s", i, got)
			}
		}
	}
	great := api.Term{Kind: api.Tuple, Items: repeatedTerm(atom("a"), 4095)}
	if got := sound.Show(holding(api.CoreConst, great)); got != "const {a"+strings.Repeat(",a", 4094)+"}" {
		t.Errorf("%.100s", got)
	}
}
