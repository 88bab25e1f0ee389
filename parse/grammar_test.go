package parse_test

import (
	"math/rand"
	"slices"
	"strconv"
	"strings"
	"testing"

	"pigeonhole/api"
	"pigeonhole/parse"
	"pigeonhole/scan"
)

// The chapter's grammar, as it stands there, is read by a reader of any grammars (Earley's way),
// which tells the first token that may not be there: to be held against the program.

const chapterGrammar = `
    module   = function* END
    function = atom head ( ";" atom head )* dot
    head     = "(" [ items ] ")" [ when ] "->" body
    when     = "when" guards
    guards   = items ( ";" items )*
    body     = items
    items    = item ( "," item )*
    item     = send [ "=" item ]
    send     = orelse [ "!" send ]
    orelse   = andalso ( "orelse" andalso )*
    andalso  = compare ( "andalso" compare )*
    compare  = chain [ ( "==" | "/=" | "=:=" | "=/=" | "<" | "=<" | ">" | ">=" ) chain ]
    chain    = sum [ ( "++" | "--" ) chain ]
    sum      = product ( ( "+" | "-" | "or" | "xor" ) product )*
    product  = unary ( ( "*" | "div" | "rem" | "and" ) unary )*
    unary    = ( "-" | "+" | "not" ) unary | call
    call     = primary ( "(" [ items ] ")" )*
    primary  = int | atom | var | text | "(" item ")" | "{" [ items ] "}" | list | fun
             | "case" item "of" clause ( ";" clause )* "end"
             | "if" guards "->" body ( ";" guards "->" body )* "end"
             | "receive" clause ( ";" clause )* [ after ] "end" | "receive" after "end"
             | "try" body "catch" caught ( ";" caught )* "end"
             | "begin" body "end"
    list     = "[" "]" | "[" items [ "|" item ] "]" | "[" item "||" gen ( "," gen )* "]"
    gen      = item [ "<-" item ]
    fun      = "fun" head ( ";" head )* "end" | "fun" atom "/" int
    clause   = item [ when ] "->" body
    after    = "after" item "->" body
    caught   = ( atom | var ) ":" item [ when ] "->" body
`

// functionNames are the names that functions have in these tests: the grammar is said once for each.
var functionNames = []string{"a", "b", "c", "d", "e", "f", "g", "(", "end", "->", "1"}

// wholeGrammar is the chapter's grammar, and what it says below it: further heads have the first one's name, a fun's int is 255 at most.
func wholeGrammar() string {
	var named []string
	for _, name := range functionNames {
		named = append(named, strings.ReplaceAll(`NAME head ( ";" NAME head )* dot`, "NAME", "atom:"+name))
	}
	return strings.NewReplacer(
		`atom head ( ";" atom head )* dot`, strings.Join(named, " | "),
		`"fun" atom "/" int`, `"fun" atom "/" byte`,
	).Replace(chapterGrammar) + "    whole = item END\n"
}

// grammar has, for each name, rows of names; a name without any is a token's.
type grammar struct {
	rules    map[string][][]string
	nullable map[string]bool
}

// grammarReader makes a grammar out of its text; each part in brackets gets a name of its own.
type grammarReader struct {
	grammar
	words []string
	made  int
}

func readGrammar(text string) grammar {
	g := grammarReader{grammar: grammar{map[string][][]string{}, map[string]bool{}}, words: strings.Fields(text)}
	for len(g.words) > 0 {
		name := g.words[0]
		g.words = g.words[2:]
		g.rules[name] = g.choices()
	}
	for changed := true; changed; {
		changed = false
		for name, rows := range g.rules {
			if !g.nullable[name] && slices.ContainsFunc(rows, g.empty) {
				g.nullable[name], changed = true, true
			}
		}
	}
	return g.grammar
}

func (g *grammarReader) empty(row []string) bool {
	return !slices.ContainsFunc(row, func(name string) bool { return !g.nullable[name] })
}

func (g *grammarReader) choices() [][]string {
	rows := [][]string{nil}
	for len(g.words) > 0 && (len(g.words) < 2 || g.words[1] != "=") {
		word := g.words[0]
		if word == ")" || word == "]" || word == ")*" {
			break
		}
		g.words = g.words[1:]
		if word == "|" {
			rows = append(rows, nil)
			continue
		}
		last := &rows[len(rows)-1]
		*last = append(*last, g.part(word))
	}
	return rows
}

// part is the name of what begins with the word.
func (g *grammarReader) part(word string) string {
	if word != "(" && word != "[" {
		if once, many := strings.CutSuffix(word, "*"); many && once != "" {
			return g.repeated([][]string{{once}})
		}
		return word
	}
	rows := g.choices()
	closing := g.words[0]
	g.words = g.words[1:]
	switch closing {
	case ")*":
		return g.repeated(rows)
	case "]":
		return g.named(append(rows, nil))
	default:
		return g.named(rows)
	}
}

func (g *grammarReader) named(rows [][]string) string {
	g.made++
	name := "part" + strconv.Itoa(g.made)
	g.rules[name] = rows
	return name
}

func (g *grammarReader) repeated(rows [][]string) string {
	name := g.named(nil)
	for _, row := range rows {
		g.rules[name] = append(g.rules[name], append([]string{name}, row...))
	}
	g.rules[name] = append(g.rules[name], nil)
	return name
}

// place is how far a row of a rule has been read, and from where on.
type place struct {
	name            string
	row, done, from int
}

// recognizer goes through tokens, and knows all that may be told of those ahead.
type recognizer struct {
	grammar
	sets [][]place
}

func newRecognizer(g grammar, start string) *recognizer {
	r := &recognizer{grammar: g}
	var first []place
	for i := range g.rules[start] {
		first = append(first, place{start, i, 0, 0})
	}
	r.add(first)
	return r
}

// wanted is the name that stands next in the row.
func (r *recognizer) wanted(p place) string {
	if row := r.rules[p.name][p.row]; p.done < len(row) {
		return row[p.done]
	}
	return ""
}

// add makes a set out of these places, and of all that they lead to.
func (r *recognizer) add(set []place) {
	now := len(r.sets)
	r.sets = append(r.sets, nil)
	met := map[place]bool{}
	put := func(p place) {
		if !met[p] {
			met[p] = true
			r.sets[now] = append(r.sets[now], p)
		}
	}
	for _, p := range set {
		put(p)
	}
	for i := 0; i < len(r.sets[now]); i++ {
		p := r.sets[now][i]
		name := r.wanted(p)
		if name == "" {
			for _, above := range r.sets[p.from] {
				if r.wanted(above) == p.name {
					above.done++
					put(above)
				}
			}
			continue
		}
		for k := range r.rules[name] {
			put(place{name, k, 0, now})
		}
		if r.nullable[name] {
			p.done++
			put(p)
		}
	}
}

// namesOf are the grammar's names of a token.
func namesOf(t api.Token) []string {
	switch t.Kind {
	case api.TokInt:
		if n, err := strconv.Atoi(t.Text); err == nil && n <= 255 {
			return []string{"int", "byte"}
		}
		return []string{"int"}
	case api.TokAtom:
		return []string{"atom", "atom:" + t.Text}
	case api.TokVar:
		return []string{"var"}
	case api.TokText:
		return []string{"text"}
	case api.TokDot:
		return []string{"dot"}
	case api.TokEnd:
		return []string{"END"}
	default:
		return []string{`"` + t.Text + `"`}
	}
}

// step goes on over a token: false, if it may not be there.
func (r *recognizer) step(t api.Token) bool {
	names := namesOf(t)
	var next []place
	for _, p := range r.sets[len(r.sets)-1] {
		if slices.Contains(names, r.wanted(p)) {
			p.done++
			next = append(next, p)
		}
	}
	if len(next) == 0 {
		return false
	}
	r.add(next)
	return true
}

// back forgets all but so many tokens.
func (r *recognizer) back(tokens int) { r.sets = r.sets[:tokens+1] }

// firstWrong is the first token that may not be there, the first ones having been gone over already.
func (r *recognizer) firstWrong(tokens []api.Token) (api.Token, bool) {
	for _, t := range tokens[len(r.sets)-1:] {
		if !r.step(t) {
			return t, true
		}
	}
	return api.Token{}, false
}

type kindOfSource struct {
	start string
	parse func(string) (api.Node, api.Fault)
}

var (
	ofModules = kindOfSource{"module", parse.Module}
	ofItems   = kindOfSource{"whole", parse.Expr}
)

func tokensOf(t *testing.T, s string) []api.Token {
	t.Helper()
	tokens, fault := scan.Tokens(s)
	if fault != (api.Fault{}) {
		t.Fatalf("%q: %v", s, fault)
	}
	return tokens
}

// spelled is tokens with blanks between.
func spelled(tokens []api.Token) string {
	var out []string
	for _, t := range tokens {
		switch t.Kind {
		case api.TokAtom:
			out = append(out, "'"+t.Text+"'")
		case api.TokText:
			out = append(out, `"`+t.Text+`"`)
		default:
			out = append(out, t.Text)
		}
	}
	return strings.Join(out, " ")
}

// againstGrammar holds the program's answer for tokens (without the last one) against the grammar's; r has gone over the first ones already.
func againstGrammar(t *testing.T, r *recognizer, kind kindOfSource, row []api.Token) {
	t.Helper()
	s := spelled(row)
	wrong, found := r.firstWrong(tokensOf(t, s))
	want := api.Fault{}
	if found {
		want = api.Fault{Err: api.ErrSyntax, At: wrong.At}
	}
	n, fault := kind.parse(s)
	if fault != want || found && !zero(n) {
		t.Fatalf("%s: %v, not %v", s, fault, want)
	}
}

// grammarItems and grammarModules have each part of the grammar in them.
var grammarItems = []string{
	"1", "a", "X", `"t"`, "(a)", "((a))", "{}", "{a}", "{a, b}", "[]", "[a]", "[a, b]", "[a | b]", "[a, b | X]",
	"[a || b]", "[a || X <- b]", "[a || X <- b, c, {Y} <- d]", "a = b = c", "a ! b ! c", "a ! b = c ! d", "a orelse b orelse c andalso d andalso e",
	"a == b", "a =:= b orelse c < d", "a ++ b -- c ++ d", "a + b - c or d xor 1", "a * b div c rem d and 2", "1 - - 2", "- + not a", "not a == not b",
	"a + b * c ++ d * e + f == g andalso h orelse i ! j = k", "f()", "f(a)", "f(a, b)(c)()", "(a + b)(c)", "{a}(b)", "- f(1)",
	"fun () -> a end", "fun (X, 1) when a -> b, c; () -> d; (_) when a, b; c -> d end", "fun f/2", "fun f/255(X)", "fun f/000",
	"case a of b -> c end", "case a = b of {X} when c; d, e -> f, g; Y -> h end", "if a -> b end", "if a; b, c -> d; e -> f, g; h; i; j -> k end",
	"receive a -> b end", "receive a -> b; X when c -> d end", "receive after a -> b end", "receive a when b -> c; d -> e after 10 -> f, g end",
	"try a catch b : c -> d end", "try a, b catch X : {c} when d; e -> f; _ : _ -> g, h end", "begin a end", "begin a, b end(c)",
	"f(fun (X) -> case X of [a | _] when X == a -> receive b -> c after 1 -> {} end; _ -> try X catch E : _ -> [E || E <- if a -> b end] end end end)",
}

var grammarModules = []string{
	"", "f() -> a.", "f() -> a; f() -> b. g() -> c.", "f(X) when X > 1; X == a -> X; f(_) -> [H || {H, _} <- g(1)].",
	"a() -> b, c. a(X, Y) when X, Y -> 1; a({}, []) -> fun () -> a; () -> b end. b() -> if a -> b; c -> d end; b() -> a.",
	"f(A) -> receive b -> c; d -> e after 1 -> 2 end; f(B) -> case B of b -> try a catch b : c -> d; e : f -> g end; d -> begin e end end; f(C) -> C ! fun g/1.",
}

// someTokens are all signs and words, and some of each other kind.
func someTokens(t *testing.T) []api.Token {
	all := `( ) { } [ ] , ; : -> <- || | = == /= =:= =/= < =< > >= + - * / ++ -- ! ` + strings.Join(scan.Words(), " ") + ` f g a X _ 0 255 256 "t" '(' 'end' '->' '1' "(" "->" . `
	tokens := tokensOf(t, all)
	return tokens[:len(tokens)-1]
}

// eachTurned cuts the source behind each token, puts others in its place and ahead of it, leaves it out, and goes on behind the end.
func eachTurned(t *testing.T, g grammar, kind kindOfSource, source string) {
	t.Helper()
	row := tokensOf(t, source)
	row = row[:len(row)-1]
	r := newRecognizer(g, kind.start)
	others := someTokens(t)
	for i := range len(row) + 1 {
		ahead := row[:i:i]
		try := func(behind ...api.Token) {
			t.Helper()
			r.back(i)
			againstGrammar(t, r, kind, append(ahead, behind...))
		}
		try()
		for _, other := range others {
			try(other)
			try(append([]api.Token{other}, row[i:]...)...)
			if i < len(row) {
				try(append([]api.Token{other}, row[i+1:]...)...)
			}
		}
		if i < len(row) {
			try(row[i+1:]...)
			r.back(i)
			if !r.step(row[i]) {
				t.Fatalf("%s: not by the grammar", source)
			}
		}
	}
	r.back(len(row))
	againstGrammar(t, r, kind, row)
}

// P5.1, P5.2
func TestSourcesTurned(t *testing.T) {
	g := readGrammar(wholeGrammar())
	turned := func(kind kindOfSource, s string) {
		t.Run(s, func(t *testing.T) {
			t.Parallel()
			eachTurned(t, g, kind, s)
		})
	}
	for _, s := range grammarItems {
		turned(ofItems, s)
	}
	for _, s := range grammarModules {
		turned(ofModules, s)
	}
}

// P5.1: rows of tokens by chance, most of them such as may be there.
func TestTokensByChance(t *testing.T) {
	g := readGrammar(wholeGrammar())
	chance := rand.New(rand.NewSource(5))
	some := someTokens(t)
	for i := range 1200 {
		kind := ofItems
		if i%3 == 0 {
			kind = ofModules
		}
		r := newRecognizer(g, kind.start)
		var row []api.Token
		for range chance.Intn(30) {
			next := some[chance.Intn(len(some))]
			for tries := 0; !r.step(next) && tries < 200 && chance.Intn(200) > 0; tries++ {
				next = some[chance.Intn(len(some))]
			}
			row = append(row, next)
			if len(r.sets) <= len(row) {
				break
			}
		}
		for range chance.Intn(3) {
			row = append(row, some[chance.Intn(len(some))])
		}
		againstGrammar(t, newRecognizer(g, kind.start), kind, row)
	}
}

// The recognizer itself: what it says of the chapter's own examples.
func TestRecognizer(t *testing.T) {
	g := readGrammar(wholeGrammar())
	for s, want := range map[string]int{"": 0, "a b": 2, "1 == 2 == 3": 7, "[a, b || c]": 6, "fun f/256": 6, "receive end": 8, "f(X)(Y)": -1, "a ! b ! c": -1, "a ->": 2} {
		wrong, found := newRecognizer(g, "whole").firstWrong(tokensOf(t, s))
		if found != (want >= 0) || found && wrong.At != want {
			t.Errorf("%s: %v, %t", s, wrong, found)
		}
	}
	for s, want := range map[string]int{"": -1, "f() -> a; g() -> b.": 10, "f() -> a": 8, "f() -> a; f() -> b. g() -> a.": -1} {
		wrong, found := newRecognizer(g, "module").firstWrong(tokensOf(t, s))
		if found != (want >= 0) || found && wrong.At != want {
			t.Errorf("%s: %v, %t", s, wrong, found)
		}
	}
}
