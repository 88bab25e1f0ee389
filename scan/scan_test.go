package scan

import (
	"fmt"
	"math/rand"
	"regexp"
	"slices"
	"strings"
	"testing"
	"unsafe"

	"pigeonhole/api"
)

const allWords = "after and andalso begin case div end fun if not of or orelse receive rem try catch when xor"

const allSigns = "( ) { } [ ] , ; : -> <- || | = == /= =:= =/= < =< > >= + - * / ++ -- !"

func tok(kind api.TokenKind, text string, at int) api.Token {
	return api.Token{Kind: kind, Text: text, At: at}
}

func num(text string, at int) api.Token { return tok(api.TokInt, text, at) }

func atom(text string, at int) api.Token { return tok(api.TokAtom, text, at) }

func variable(text string, at int) api.Token { return tok(api.TokVar, text, at) }

func text(text string, at int) api.Token { return tok(api.TokText, text, at) }

func sign(text string, at int) api.Token { return tok(api.TokSign, text, at) }

func word(text string, at int) api.Token { return tok(api.TokWord, text, at) }

func dot(at int) api.Token { return tok(api.TokDot, ".", at) }

// told asks that s is the tokens, with a TokEnd behind them.
func told(t *testing.T, s string, want ...api.Token) {
	t.Helper()
	want = append(slices.Clone(want), tok(api.TokEnd, "", len(s)))
	got, fault := Tokens(s)
	if fault != (api.Fault{}) || !slices.Equal(got, want) {
		t.Errorf("%.60q: %v, %.300v, not %.300v", s, fault, fmt.Sprint(got), fmt.Sprint(want))
	}
}

// faulty asks that s has the fault, and that nothing else is told.
func faulty(t *testing.T, s string, err api.Errno, at int) {
	t.Helper()
	got, fault := Tokens(s)
	if fault != (api.Fault{Err: err, At: at}) || len(got) != 0 {
		t.Errorf("%.60q: %v, and %d tokens; not %v", s, fault, len(got), api.Fault{Err: err, At: at})
	}
}

// wrongAnywhere asks that the one token s is a bad one, alone, and with others ahead and behind.
func wrongAnywhere(t *testing.T, s string, err api.Errno) {
	t.Helper()
	faulty(t, s, err, 0)
	faulty(t, "f(X) -> \n% ?\n"+s, err, 13)
	faulty(t, s+"\n? $ 'a", err, 0)
}

// P3.1
func TestLengthOfASource(t *testing.T) {
	told(t, "")
	told(t, strings.Repeat(" ", api.MaxSource))
	told(t, "%"+strings.Repeat("?", api.MaxSource-1))
	told(t, strings.Repeat("\n", api.MaxSource-1)+"a", atom("a", api.MaxSource-1))
	faulty(t, strings.Repeat(" ", api.MaxSource-1)+"?", api.ErrByte, api.MaxSource-1)
	faulty(t, strings.Repeat(" ", api.MaxSource-1)+"'", api.ErrToken, api.MaxSource-1)
	for _, s := range []string{" ", "a", "?", "'", "1a"} { // ErrLong comes ahead of what else is wrong
		faulty(t, strings.Repeat(s, api.MaxSource/len(s)+1), api.ErrLong, 0)
	}
	faulty(t, strings.Repeat(" ", 1<<22), api.ErrLong, 0)
}

// P3.1: as many tokens as there can be.
func TestManyTokens(t *testing.T) {
	var want []api.Token
	for i := range api.MaxSource {
		want = append(want, sign(";", i))
	}
	told(t, strings.Repeat(";", api.MaxSource), want...)
	faulty(t, strings.Repeat(";", api.MaxSource-1)+"?", api.ErrByte, api.MaxSource-1)
}

// P3.1
func TestBlanksAndComments(t *testing.T) {
	for _, s := range []string{
		" ", "\t", "\n", "\r", " \t\r\n ", "%", "% a", "%\n", "%%", "% 'a \x00\xff\" ?\n", "%a\r\n%b\n %c",
	} {
		told(t, s)
	}
	told(t, "a% b\nc", atom("a", 0), atom("c", 5))
	told(t, "a%% b\rc", atom("a", 0)) // a comment goes on over a byte 13
	told(t, "a %b % c\n%d\n\ne", atom("a", 0), atom("e", 13))
	told(t, "1% end", num("1", 0))
	told(t, "'%'\"%\"", atom("%", 0), text("%", 3)) // none in quotes
	for c := range 33 {
		if s := string([]byte{byte(c)}); !strings.Contains("\t\n\r ", s) {
			wrongAnywhere(t, s, api.ErrByte)
		}
	}
	wrongAnywhere(t, "\x7f", api.ErrByte)
	wrongAnywhere(t, "\u00a0", api.ErrByte)
}

// P3.1
func TestNames(t *testing.T) {
	for _, s := range []string{"a", "z", "m", "aZ", "a_@09zAZ", "a@b", "a_", "ifs", "iF", "i", "andals", "end_", "xor1", "true"} {
		told(t, s, atom(s, 0))
	}
	for _, s := range []string{"A", "Z", "M", "_", "__", "_a", "_1", "_@", "Xyz_@09", "If", "END", "_if"} {
		told(t, s, variable(s, 0))
	}
	for _, s := range strings.Fields(allWords) {
		told(t, s, word(s, 0))
		told(t, s+"(", word(s, 0), sign("(", len(s)))
		told(t, "'"+s+"'", atom(s, 0))
		told(t, s+"x", atom(s+"x", 0))
	}
	told(t, "a B _c if", atom("a", 0), variable("B", 2), variable("_c", 4), word("if", 7))
	told(t, "a'b'C\"d\"", atom("a", 0), atom("b", 1), variable("C", 4), text("d", 5))
	wrongAnywhere(t, "@", api.ErrByte)
	wrongAnywhere(t, "@a", api.ErrByte)
	faulty(t, "a\xe9", api.ErrByte, 1)
	faulty(t, "\u00e9", api.ErrByte, 0)
}

// P3.1
func TestLengthOfNames(t *testing.T) {
	for _, c := range []string{"a", "A", "_"} {
		kind := api.TokVar
		if c == "a" {
			kind = api.TokAtom
		}
		for _, tail := range []string{"b", "9", "@", "_", "Z"} {
			longest := c + strings.Repeat(tail, api.MaxName-1)
			told(t, longest, tok(kind, longest, 0))
			told(t, longest+"-"+longest, tok(kind, longest, 0), sign("-", 40), tok(kind, longest, 41))
			wrongAnywhere(t, longest+tail, api.ErrToken)
			wrongAnywhere(t, strings.Repeat(longest, 100), api.ErrToken)
		}
	}
}

// P3.1
func TestDigits(t *testing.T) {
	for _, s := range []string{"0", "9", "007", "1234567890", "18446744073709551616", strings.Repeat("9", 400), strings.Repeat("0", 400)} {
		told(t, s, num(s, 0))
		told(t, s+" "+s, num(s, 0), num(s, len(s)+1))
	}
	told(t, "-1+2", sign("-", 0), num("1", 1), sign("+", 2), num("2", 3))
	told(t, "1'a'2\"b\"3", num("1", 0), atom("a", 1), num("2", 4), text("b", 5), num("3", 8))
	told(t, "1.", num("1", 0), dot(1))
	for _, c := range []string{"a", "z", "A", "Z", "e", "x", "_", "@"} {
		wrongAnywhere(t, "1"+c, api.ErrToken)
		wrongAnywhere(t, "12"+c+"3", api.ErrToken)
		wrongAnywhere(t, strings.Repeat("1", 400)+c, api.ErrToken)
	}
	for _, c := range []string{"`", "{", "[", "^", "/", ":", "?"} { // right beside the letters and the digits
		if _, fault := Tokens("1" + c); fault.Err == api.ErrToken {
			t.Errorf("1%s: %v", c, fault)
		}
	}
	wrongAnywhere(t, strings.Repeat("1", 401), api.ErrToken)
	wrongAnywhere(t, strings.Repeat("0", 5000), api.ErrToken)
	faulty(t, "1\xe9", api.ErrByte, 1)
}

// P3.1
func TestEscapes(t *testing.T) {
	for escape, says := range map[string]string{
		`\n`: "\n", `\t`: "\t", `\\`: `\`, `\'`: "'", `\"`: `"`,
		`\x00`: "\x00", `\x0a`: "\n", `\x0A`: "\n", `\x1f`: "\x1f", `\x41`: "A", `\x7F`: "\x7f",
		`\xff`: "\xff", `\xFF`: "\xff", `\xaB`: "\xab", `\xCd`: "\xcd", `\xeE`: "\xee", `\x22`: `"`, `\x27`: "'", `\x5c`: `\`,
		`\x414`: "A4", `\nn`: "\nn", `\\n`: `\n`, `\\\n`: "\\\n", `\\x41`: `\x41`,
	} {
		told(t, "'"+escape+"'", atom(says, 0))
		told(t, `"`+escape+`"`, text(says, 0))
		told(t, `"a`+escape+`b`+escape+`" c`, text("a"+says+"b"+says, 0), atom("c", len(escape)*2+5))
	}
	for c := range 256 {
		all := fmt.Sprintf(`'\x%02x' "\x%02X"`, c, c)
		told(t, all, atom(string([]byte{byte(c)}), 0), text(string([]byte{byte(c)}), 7))
	}
	for c := range 256 {
		s := string([]byte{'\\', byte(c)})
		if strings.Contains(`nt\'"`, s[1:]) {
			continue
		}
		wrongAnywhere(t, `"a`+s+`b"`, api.ErrToken)
		wrongAnywhere(t, `'a`+s+`b'`, api.ErrToken)
	}
}

// P3.1
func TestEscapesThatAreNone(t *testing.T) {
	for _, s := range []string{
		`\x`, `\x4`, `\xg0`, `\x0g`, `\x/0`, `\x0/`, `\x:0`, `\x0:`, `\x@0`, `\x0@`, `\xG0`, `\x0G`, "\\x`0", "\\x0`",
		`\x 1`, `\x1 `, `\x{41}`, `\X41`, `\N`, `\T`, `\r`, `\0`, `\101`, `\u0041`, "\\\n", `\x4\x41`, `\x\x41`, "\\x4\xff",
	} {
		for _, quote := range []string{"'", `"`} {
			wrongAnywhere(t, quote+s+quote, api.ErrToken)
			wrongAnywhere(t, quote+"a"+s+quote+" b"+quote, api.ErrToken)
			faulty(t, "a "+quote+s, api.ErrToken, 2) // nor at the end
		}
	}
}

// P3.1
func TestQuotes(t *testing.T) {
	told(t, "''", atom("", 0))
	told(t, `""`, text("", 0))
	told(t, `''""''`, atom("", 0), text("", 2), atom("", 4))
	told(t, `'a"b' "a'b"`, atom(`a"b`, 0), text("a'b", 6))
	told(t, "'a''b'", atom("a", 0), atom("b", 3))
	told(t, "'X' '_' '1' '.' '->'", atom("X", 0), atom("_", 4), atom("1", 8), atom(".", 12), atom("->", 16))
	told(t, "'a b'c", atom("a b", 0), atom("c", 5))
	for c := range 256 {
		s := string([]byte{byte(c)})
		switch {
		case c < 32:
			wrongAnywhere(t, "'"+s+"'", api.ErrToken)
			wrongAnywhere(t, `"a`+s+`b"`, api.ErrToken)
		case c != '\'' && c != '"' && c != '\\': // 127 and above are as good as others
			told(t, "'"+s+"'", atom(s, 0))
			told(t, `"a`+s+`b"`, text("a"+s+"b", 0))
		}
	}
	for _, s := range []string{"'", `"`, "'a", `"a`, `'a"`, `"a'`, `'a\'`, `"a\"`, `'\`, `"\`, `'\x`, `"\x4`, `'\x41`, "'a % b", `"a.`} {
		faulty(t, s, api.ErrToken, 0)
		faulty(t, "a, "+s, api.ErrToken, 3)
	}
	faulty(t, "'a'b'", api.ErrToken, 4)
	faulty(t, "'a\n", api.ErrToken, 0)
	faulty(t, `"`+strings.Repeat("a", api.MaxSource-1), api.ErrToken, 0)
}

// P3.1: what counts is the Text, not how it is written.
func TestLengthOfQuotes(t *testing.T) {
	for _, x := range []struct {
		kind  api.TokenKind
		quote string
		most  int
	}{{api.TokAtom, "'", 40}, {api.TokText, `"`, 400}} {
		for written, says := range map[string]string{"a": "a", " ": " ", `\n`: "\n", `\x41`: "A", `\\`: `\`, `\'`: "'", `\"`: `"`, "\xff": "\xff"} {
			longest := x.quote + strings.Repeat(written, x.most) + x.quote
			told(t, longest, tok(x.kind, strings.Repeat(says, x.most), 0))
			told(t, longest+"+a", tok(x.kind, strings.Repeat(says, x.most), 0), sign("+", len(longest)), atom("a", len(longest)+1))
			for _, more := range []int{x.most + 1, x.most + 2, x.most * 10} {
				wrongAnywhere(t, x.quote+strings.Repeat(written, more)+x.quote, api.ErrToken)
			}
		}
	}
}

// P3.1
func TestDots(t *testing.T) {
	told(t, ".", dot(0))
	for _, behind := range []string{" ", "\t", "\n", "\r", "%", "%.", " %", "% a\n"} {
		told(t, "."+behind, dot(0))
		told(t, "a."+behind, atom("a", 0), dot(1))
	}
	told(t, "a. b.\nc.% d.\n.", atom("a", 0), dot(1), atom("b", 3), dot(4), atom("c", 6), dot(7), dot(13))
	told(t, "X.\t1.\r'q'.", variable("X", 0), dot(1), num("1", 3), dot(4), atom("q", 6), dot(9))
	for c := range 256 {
		if s := string([]byte{byte(c)}); !strings.Contains("\t\n\r %", s) {
			wrongAnywhere(t, "."+s, api.ErrByte)
		}
	}
	faulty(t, "..", api.ErrByte, 0)
	faulty(t, "a .. b", api.ErrByte, 2)
	faulty(t, "a. ..", api.ErrByte, 3)
}

// P3.1
func TestSigns(t *testing.T) {
	for _, s := range strings.Fields(allSigns) {
		told(t, s, sign(s, 0))
		told(t, "a"+s+"1", atom("a", 0), sign(s, 1), num("1", len(s)+1))
	}
	for s, want := range map[string]string{
		"=::": "= : :", "=:": "= :", "=:=": "=:=", "=:==": "=:= =", "=/": "= /", "=/=": "=/=", "=//=": "= / /=", "=/:=": "= / : =",
		"==": "==", "===": "== =", "====": "== ==", "==:=": "== : =", "==/=": "== /=", "=<": "=<", "=<-": "=< -", "=<=": "=< =", "=>": "= >", "=>=": "= >=",
		"<-": "<-", "<--": "<- -", "<->": "<- >", "<=": "< =", "<==": "< ==", "<<-": "< <-", "<|": "< |",
		">=": ">=", ">==": ">= =", "><-": "> <-", ">>": "> >",
		"->": "->", "-->": "-- >", "--->": "-- ->", "--": "--", "---": "-- -", "-=": "- =", "- >": "- >",
		"+": "+", "++": "++", "+++": "++ +", "+-": "+ -", "-+": "- +", "+=": "+ =",
		"|": "|", "||": "||", "|||": "|| |", "||||": "|| ||", "| |": "| |", "||-": "|| -",
		"/=": "/=", "//": "/ /", "/==": "/= =", "/=:=": "/= : =", ":=": ": =", ":-": ": -", "!=": "! =", "!!": "! !", "**": "* *", "*/": "* /", "*/=": "* /=",
		"()": "( )", "[]": "[ ]", "{}": "{ }", "[{(,;)}]": "[ { ( , ; ) } ]", "[|]": "[ | ]", "[||]": "[ || ]", ",;:": ", ; :",
	} {
		got, fault := Tokens(s)
		if fault != (api.Fault{}) {
			t.Errorf("%s: %v", s, fault)
			continue
		}
		var texts []string
		for _, x := range got[:len(got)-1] {
			if x.Kind != api.TokSign || !strings.HasPrefix(s[x.At:], x.Text) {
				t.Errorf("%s: %v", s, x)
			}
			texts = append(texts, x.Text)
		}
		if all := strings.Join(texts, " "); all != want {
			t.Errorf("%s: %s, not %s", s, all, want)
		}
	}
}

// P3.1: bytes that begin no token.
func TestBytes(t *testing.T) {
	begins := "\t\n\r %'\".(){}[],;:-<|=/>+*!_" + "abcdefghijklmnopqrstuvwxyzABCDEFGHIJKLMNOPQRSTUVWXYZ0123456789"
	for c := range 256 {
		s := string([]byte{byte(c)})
		if !strings.Contains(begins, s) {
			wrongAnywhere(t, s, api.ErrByte)
			wrongAnywhere(t, s+"a", api.ErrByte)
			faulty(t, "+"+s, api.ErrByte, 1)
		} else if _, fault := Tokens(s); fault.Err == api.ErrByte {
			t.Errorf("%q: %v", s, fault)
		}
	}
	wrongAnywhere(t, "$a", api.ErrByte)
	wrongAnywhere(t, "?", api.ErrByte)
	wrongAnywhere(t, "\\", api.ErrByte)
}

// P3.1: of several faults the first one is told.
func TestFirstFault(t *testing.T) {
	faulty(t, "a ? 'b", api.ErrByte, 2)
	faulty(t, "a 'b ?", api.ErrToken, 2)
	faulty(t, "1a ?", api.ErrToken, 0)
	faulty(t, "'?' 1a", api.ErrToken, 4)
	faulty(t, "% ? 1a\n\"\\q\" ?", api.ErrToken, 7)
	faulty(t, "a.b 1a", api.ErrByte, 1)
}

// The chapter's examples.
func TestExamples(t *testing.T) {
	told(t, "f(X) -> 'a b'. % end", atom("f", 0), sign("(", 1), variable("X", 2), sign(")", 3), sign("->", 5), atom("a b", 8), dot(13))
	faulty(t, "1.5", api.ErrByte, 1)
	faulty(t, "1a", api.ErrToken, 0)
	faulty(t, "'a", api.ErrToken, 0)
	faulty(t, `"a\q"`, api.ErrToken, 0)
	told(t, "=:=", sign("=:=", 0))
	told(t, "=::", sign("=", 0), sign(":", 1), sign(":", 2))
	faulty(t, "a?", api.ErrByte, 1)
	faulty(t, "$a", api.ErrByte, 0)
}

// P3.2, R3
func TestWords(t *testing.T) {
	want := strings.Fields(allWords)
	got := Words()
	if !slices.Equal(got, want) {
		t.Errorf("%v", got)
	}
	clear(got)
	if again := Words(); !slices.Equal(again, want) {
		t.Errorf("changed by who asked: %v", again)
	}
	told(t, "after xor", word("after", 0), word("xor", 6))
}

// R3, R4
func TestAnswersAreNew(t *testing.T) {
	s := strings.Clone("f(X) -> 'a', \"b\", 1.")
	first, _ := Tokens(s)
	place := func(s string) uintptr { return uintptr(unsafe.Pointer(unsafe.StringData(s))) }
	for _, x := range first {
		if p := place(x.Text); x.Text != "" && place(s) <= p && p < place(s)+uintptr(len(s)) {
			t.Errorf("%v: a piece of the source itself", x)
		}
	}
	want := slices.Clone(first)
	second, _ := Tokens(s)
	clear(first[:cap(first)])
	if third, _ := Tokens(s); !slices.Equal(second, want) || !slices.Equal(third, want) {
		t.Errorf("%v, %v", second, third)
	}
}

// written is a token as a source may have it.
func written(x api.Token) string {
	quoted := func(quote string) string {
		var out strings.Builder
		for i := range len(x.Text) {
			switch c := x.Text[i]; {
			case c == quote[0] || c == '\\':
				out.WriteString(`\` + string(rune(c)))
			case c < 32:
				fmt.Fprintf(&out, `\x%02x`, c)
			default:
				out.WriteByte(c)
			}
		}
		return quote + out.String() + quote
	}
	switch x.Kind {
	case api.TokAtom:
		return quoted("'")
	case api.TokText:
		return quoted(`"`)
	default:
		return x.Text
	}
}

func placeless(row []api.Token) []api.Token {
	out := slices.Clone(row)
	for i := range out {
		out[i].At = 0
	}
	return out
}

// parts are tokens as they are written, such that each stands alone.
func parts() []string {
	out := append(strings.Fields(allWords), strings.Fields(allSigns)...)
	return append(out, "a", "bZ_@9", "X", "_", "_a1", "0", "007", "99999999999999999999", "'a b'", "''", `'\''`, `'\x00\n'`, `"%"`, `""`, `"a\\\"'"`, "'if'", "'X'", ".")
}

// P3.3
func TestTokensWithBlanksBetween(t *testing.T) {
	chance := rand.New(rand.NewSource(3))
	gaps := []string{" ", "\n", "\t", "\r", "  \n", "%\n", " % a 'b \" ? \xff\n", "%%\n\r\n", "\n%a\n%b\n\t"}
	all := parts()
	for range 3000 {
		var plain, spread strings.Builder
		var places []int
		for range chance.Intn(12) {
			part := all[chance.Intn(len(all))]
			plain.WriteString(part + " ")
			spread.WriteString(gaps[chance.Intn(len(gaps))])
			places = append(places, spread.Len())
			spread.WriteString(part + gaps[chance.Intn(len(gaps))])
		}
		first, fault := Tokens(plain.String())
		second, fault2 := Tokens(spread.String())
		if fault != (api.Fault{}) || fault2 != (api.Fault{}) || len(first) != len(places)+1 || !slices.Equal(placeless(first), placeless(second)) {
			t.Fatalf("%q: %v, %v; %q: %v, %v", plain.String(), first, fault, spread.String(), second, fault2)
		}
		var rewritten []string
		for i, x := range first {
			rewritten = append(rewritten, written(x))
			if i < len(places) && second[i].At != places[i] {
				t.Fatalf("%q: %v, not at %d", spread.String(), second[i], places[i])
			}
		}
		third, fault := Tokens(strings.Join(rewritten, " "))
		if fault != (api.Fault{}) || !slices.Equal(placeless(first), placeless(third)) {
			t.Fatalf("%q: %v, %v", rewritten, third, fault)
		}
	}
}

// rule says which bytes are a token of the kind, how many they may be, and what may not stand right behind.
type rule struct {
	shape *regexp.Regexp
	kind  api.TokenKind
	most  int
	bad   *regexp.Regexp
}

// rules are held against the program: the first one that fits has the token, and a kind of 0 is a gap.
func rules() []rule {
	const escape = `\\[nt\\'"]|\\x[0-9a-fA-F]{2}`
	var longestFirst []string
	for _, s := range strings.Fields(allSigns) {
		longestFirst = append(longestFirst, regexp.QuoteMeta(s))
	}
	slices.SortFunc(longestFirst, func(a, b string) int { return len(b) - len(a) })
	shape := func(s string) *regexp.Regexp { return regexp.MustCompile(`^(?s:` + s + `)`) }
	return []rule{
		{shape(`[\t\n\r ]|%[^\n]*`), 0, 1 << 20, nil},
		{shape(`[a-z][a-zA-Z0-9_@]*`), api.TokAtom, 40, nil},
		{shape(`[A-Z_][a-zA-Z0-9_@]*`), api.TokVar, 40, nil},
		{shape(`[0-9]+`), api.TokInt, 400, shape(`[a-zA-Z_@]`)},
		{shape(`'([^'\\\x00-\x1f]|` + escape + `)*'`), api.TokAtom, 1 << 20, nil},
		{shape(`"([^"\\\x00-\x1f]|` + escape + `)*"`), api.TokText, 1 << 20, nil},
		{shape(`\.$|\.[\t\n\r %]`), api.TokDot, 2, nil},
		{shape(strings.Join(longestFirst, "|")), api.TokSign, 3, nil},
	}
}

// byRules is what s says, quoted texts being told as they are written.
func byRules(s string, all []rule) ([]api.Token, api.Fault) {
	var out []api.Token
next:
	for at := 0; at < len(s); {
		for _, r := range all {
			text := r.shape.FindString(s[at:])
			if text == "" {
				continue
			}
			if len(text) > r.most || r.bad != nil && r.bad.MatchString(s[at+len(text):]) {
				return nil, api.Fault{Err: api.ErrToken, At: at}
			}
			if r.kind == api.TokDot {
				text = "."
			}
			switch {
			case r.kind == api.TokAtom && slices.Contains(strings.Fields(allWords), text):
				out = append(out, word(text, at))
			case r.kind != 0:
				out = append(out, tok(r.kind, text, at))
			}
			at += len(text)
			continue next
		}
		if s[at] == '\'' || s[at] == '"' {
			return nil, api.Fault{Err: api.ErrToken, At: at}
		}
		return nil, api.Fault{Err: api.ErrByte, At: at}
	}
	return append(out, tok(api.TokEnd, "", len(s))), api.Fault{}
}

// againstRules holds the program's answer for s against the rules'.
func againstRules(t *testing.T, s string, all []rule) {
	t.Helper()
	want, wantFault := byRules(s, all)
	got, fault := Tokens(s)
	if fault != wantFault || len(got) != len(want) {
		t.Fatalf("%q: %v, %v, not %v, %v", s, got, fault, want, wantFault)
	}
	for i, x := range want {
		if x.Text != "" && strings.Contains(`'"`, x.Text[:1]) {
			x.Text = got[i].Text // what escapes say is asked for elsewhere
		}
		if got[i] != x {
			t.Fatalf("%q: %v, not %v", s, got[i], x)
		}
	}
}

// P3.1: all short sources of these bytes, and longer ones by chance.
func TestAgainstRules(t *testing.T) {
	const some = "aXx4_@'\"\\.% \n=:/<>-+|!(?\x01\xe9"
	all := rules()
	for i := range len(some) {
		for k := range len(some) {
			for m := range len(some) {
				againstRules(t, string([]byte{some[i], some[k], some[m]}), all)
			}
		}
	}
	chance := rand.New(rand.NewSource(3))
	for range 30000 {
		s := make([]byte, chance.Intn(12))
		for i := range s {
			s[i] = some[chance.Intn(len(some))]
		}
		againstRules(t, string(s), all)
	}
	for range 3000 {
		var s strings.Builder
		for range chance.Intn(8) {
			s.WriteString(parts()[chance.Intn(len(parts()))])
		}
		againstRules(t, s.String(), all)
	}
}

// R1: any bytes have an answer, and it is one of the two.
func FuzzTokens(f *testing.F) {
	for _, s := range []string{"", "f(X) -> 'a b'. % end", `"\x4`, "1.5", "\x00\xff", "=:= =/="} {
		f.Add(s)
	}
	f.Fuzz(func(t *testing.T, s string) {
		got, fault := Tokens(s)
		if fault != (api.Fault{}) {
			if len(got) != 0 || fault.At < 0 || fault.At >= len(s) {
				t.Errorf("%q: %v, %v", s, got, fault)
			}
			return
		}
		if last := got[len(got)-1]; last != tok(api.TokEnd, "", len(s)) {
			t.Errorf("%q: %v", s, last)
		}
	})
}
