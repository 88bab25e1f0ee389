package code_test

import (
	"math"
	"slices"
	"strconv"
	"strings"
	"testing"

	"pigeonhole/api"
	"pigeonhole/code"
)

func TestExamples(t *testing.T) {
	if text := code.Text(api.Instr{Op: api.OpCall, A: 3, N: 2, Slots: []int{0, 1}}); text != "call s3 #2 (s0 s1)" {
		t.Error(text)
	}
	if reads := code.Reads(api.Instr{Op: api.OpIsSame, B: 1, C: 4}); !slices.Equal(reads, []int{1, 4}) {
		t.Error(reads)
	}
	c := api.Code{Instrs: takes(7)}
	c.Instrs[5] = api.Instr{Op: api.OpIsCons, L: 9}
	c.Instrs[6] = api.Instr{Op: api.OpJump, L: 2}
	if next := code.Next(c, 5); !slices.Equal(next, []int{6, 9}) {
		t.Error(next)
	}
	if next := code.Next(c, 6); !slices.Equal(next, []int{2}) {
		t.Error(next)
	}
}

// told is of each Op what is told of an instruction that has each field, whether its Op has it or not: A 10, B 11, C 12,
// N 13, L 14, Text x, Slots 15 and 16.
func told() map[api.Op]struct {
	text  string
	reads []int
} {
	b, s := []int{11}, []int{15, 16}
	type tell = struct {
		text  string
		reads []int
	}
	return map[api.Op]tell{
		0: {"?", nil}, api.OpConst: {"const s10 #13", nil}, api.OpMove: {"move s10 s11", b}, api.OpTuple: {"tuple s10 (s15 s16)", s},
		api.OpCons: {"cons s10 s11 s12", []int{11, 12}}, api.OpFun: {"fun s10 #13 (s15 s16)", s}, api.OpCall: {"call s10 #13 (s15 s16)", s},
		api.OpTail: {"tail #13 (s15 s16)", s}, api.OpApply: {"apply s10 s11 (s15 s16)", []int{11, 15, 16}},
		api.OpTailFun: {"tailfun s11 (s15 s16)", []int{11, 15, 16}}, api.OpBif: {"bif s10 x (s15 s16)", s}, api.OpReturn: {"return s11", b},
		api.OpJump: {"jump @14", nil}, api.OpIsTuple: {"istuple s11 #13 @14", b}, api.OpIsCons: {"iscons s11 @14", b},
		api.OpIsConst: {"isconst s11 #13 @14", b}, api.OpIsSame: {"issame s11 s12 @14", []int{11, 12}}, api.OpElem: {"elem s10 s11 #13", b},
		api.OpHead: {"head s10 s11", b}, api.OpRest: {"rest s10 s11", b}, api.OpGuard: {"guard s10 x (s15 s16) @14", s},
		api.OpReceive: {"receive #13", nil}, api.OpNext: {"next s10 @14", nil}, api.OpTake: {"take", nil}, api.OpSkip: {"skip @14", nil},
		api.OpTime: {"time s11", b}, api.OpTry: {"try s10 @14", nil}, api.OpUntry: {"untry", nil}, api.OpFail: {"fail s11", b}, api.OpRaise: {"raise s11", b},
		30: {"?", nil}, 255: {"?", nil},
	}
}

func TestEachOpTells(t *testing.T) {
	for op, want := range told() {
		i := api.Instr{Op: op, A: 10, B: 11, C: 12, N: 13, L: 14, Text: "x", Slots: []int{15, 16}}
		if text := code.Text(i); text != want.text {
			t.Errorf("Text: %q, not %q", text, want.text)
		}
		if reads := code.Reads(i); !slices.Equal(reads, want.reads) {
			t.Errorf("Reads of %q: %v, not %v", want.text, reads, want.reads)
		}
		a, ok := code.Writes(i)
		writes := len(want.text) > 3 && strings.Contains(want.text, " s10")
		if ok != writes || ok && a != 10 || !ok && a != 0 {
			t.Errorf("Writes of %q: %d, %v", want.text, a, ok)
		}
	}
	for _, op := range others() {
		i := api.Instr{Op: op, A: 10, B: 11, C: 12, N: 13, L: 14, Text: "x", Slots: []int{15, 16}}
		a, ok := code.Writes(i)
		if code.Text(i) != "?" || len(code.Reads(i)) != 0 || a != 0 || ok {
			t.Errorf("Op %d: %q, %v, %d, %v", op, code.Text(i), code.Reads(i), a, ok)
		}
	}
}

// What is told is the same, whether an instruction is right or not.
func TestTellsAsItStands(t *testing.T) {
	for _, n := range ints() {
		s := "s" + strconv.Itoa(n)
		i := api.Instr{Op: api.OpCons, A: n, B: n, C: n}
		if text := code.Text(i); text != "cons "+s+" "+s+" "+s {
			t.Error(text)
		}
		if a, ok := code.Writes(i); a != n || !ok {
			t.Error(a, ok)
		}
		if reads := code.Reads(i); !slices.Equal(reads, []int{n, n}) {
			t.Error(reads)
		}
		i = api.Instr{Op: api.OpApply, B: n, Slots: []int{n, 0, n, n}}
		if reads := code.Reads(i); !slices.Equal(reads, []int{n, n, 0, n, n}) {
			t.Error(reads)
		}
		if text := code.Text(i); text != "apply s0 "+s+" ("+s+" s0 "+s+" "+s+")" {
			t.Error(text)
		}
		i = api.Instr{Op: api.OpIsTuple, B: 1, N: n, L: n}
		if text := code.Text(i); text != "istuple s1 #"+strconv.Itoa(n)+" @"+strconv.Itoa(n) {
			t.Error(text)
		}
	}
	if text := code.Text(api.Instr{Op: api.OpJump, L: math.MinInt}); text != "jump @-9223372036854775808" {
		t.Error(text)
	}
}

func TestTextsOfNames(t *testing.T) {
	long := strings.Repeat("a", api.MaxName)
	for name, want := range map[string]string{
		"": "''", "self": "self", "+": "'+'", "=:=": "'=:='", "{}": "'{}'", "|": "'|'", "a b": "'a b'", "Self": "'Self'", "if": "'if'", "not": "'not'",
		"after": "'after'", "a@_9": "a@_9", "\x00": `'\x00'`, "\xff\n": `'\xff\n'`, "'": `'\''`, `\`: `'\\'`, "é": `'\xc3\xa9'`,
		long: long, long + "a": "", strings.Repeat("\x80", api.MaxName): "'" + strings.Repeat(`\x80`, api.MaxName) + "'",
		strings.Repeat("\x80", api.MaxName+1): "", strings.Repeat("a", 1<<16): "",
	} {
		if text := code.Text(api.Instr{Op: api.OpBif, A: 1, Text: name}); text != "bif s1 "+want+" ()" {
			t.Errorf("bif of %.50q: %q", name, text)
		}
		i := api.Instr{Op: api.OpGuard, A: 1, Text: name, Slots: []int{2}, L: -1}
		if text := code.Text(i); text != "guard s1 "+want+" (s2) @-1" {
			t.Errorf("guard of %.50q: %q", name, text)
		}
		if text := code.Text(api.Instr{Op: api.OpTake, Text: name}); text != "take" {
			t.Errorf("take with %.50q: %q", name, text)
		}
	}
}

func TestTextsOfRows(t *testing.T) {
	for many := range 20 {
		row := make([]int, many)
		words := make([]string, many)
		for n := range row {
			row[n] = n * n
			words[n] = "s" + strconv.Itoa(n*n)
		}
		if text := code.Text(api.Instr{Op: api.OpTuple, A: 7, Slots: row}); text != "tuple s7 ("+strings.Join(words, " ")+")" {
			t.Error(text)
		}
	}
	great := api.Instr{Op: api.OpTailFun, B: 7, Slots: repeated(1<<20, 3)}
	if text := code.Text(great); text != "tailfun s7 (s3"+strings.Repeat(" s3", 1<<20-1)+")" {
		t.Error("a great row")
	}
	if reads := code.Reads(great); len(reads) != 1<<20+1 || reads[0] != 7 || reads[1<<20] != 3 {
		t.Error("what it reads")
	}
}

func TestNoReadsAreNone(t *testing.T) {
	for _, i := range []api.Instr{{Op: api.OpTuple}, {Op: api.OpTuple, Slots: []int{}}, {Op: api.OpTake, Slots: []int{1}}, {Op: api.OpConst, B: 1, C: 1}, {Op: 99, B: 1}} {
		if reads := code.Reads(i); len(reads) != 0 {
			t.Errorf("%s: %v", code.Text(i), reads)
		}
	}
}

func TestNextOfEachOp(t *testing.T) {
	for _, r := range chapter() {
		for _, at := range []int{0, 1, 4, 9} {
			for _, l := range append(ints(), at-1, at, at+1, at+2, 9, 10, 11) {
				c := api.Code{Instrs: slices.Repeat([]api.Instr{{Op: api.OpJump, L: 77}}, 10)}
				c.Instrs[at] = api.Instr{Op: r.op, L: l}
				want := map[string][]int{"next": {at + 1}, "alone": {l}, "both": {at + 1, l}}[r.on]
				slices.Sort(want)
				if next := code.Next(c, at); !slices.Equal(next, slices.Compact(want)) {
					t.Errorf("%s at %d with L %d: %v, not %v", r.word, at, l, next, want)
				}
			}
		}
	}
	for _, op := range others() {
		if next := code.Next(api.Code{Instrs: []api.Instr{{Op: op, L: 7}, {Op: op}}}, 0); len(next) != 0 {
			t.Errorf("Op %d: %v", op, next)
		}
	}
}

func TestNextByHand(t *testing.T) {
	c := api.Code{Instrs: []api.Instr{{Op: api.OpIsCons, L: 3}, {Op: api.OpIsCons, L: 0}, {Op: api.OpIsCons, L: 3}, {Op: api.OpIsCons, L: 3}, {Op: api.OpSkip, L: 4}, {Op: api.OpReturn, L: 2}, {Op: api.OpGuard, L: math.MinInt}}}
	for at, want := range [][]int{{1, 3}, {0, 2}, {3}, {3, 4}, {4}, nil, {math.MinInt, 7}} {
		if next := code.Next(c, at); !slices.Equal(next, want) {
			t.Errorf("%d: %v, not %v", at, next, want)
		}
	}
}

func TestNextOfNoPlace(t *testing.T) {
	c := api.Code{Entries: []api.Entry{{Slots: 9}}, Instrs: takes(3)}
	for _, at := range []int{math.MinInt, math.MinInt + 1, -4, -3, -1, 3, 4, math.MaxInt - 1, math.MaxInt} {
		if next := code.Next(c, at); len(next) != 0 {
			t.Errorf("%d: %v", at, next)
		}
		if next := code.Next(api.Code{}, at); len(next) != 0 {
			t.Errorf("%d of nothing: %v", at, next)
		}
	}
	if len(code.Next(api.Code{}, 0)) != 0 {
		t.Error("0 of nothing")
	}
}

// Next asks neither for entries nor for what is right elsewhere.
func TestNextOfAnyCode(t *testing.T) {
	c := api.Code{Entries: []api.Entry{{At: -7, Slots: -1}, {At: 99}}, Instrs: []api.Instr{{Op: 99}, {Op: api.OpTry, A: -9, L: 44}}, Consts: flaws()}
	if next := code.Next(c, 1); !slices.Equal(next, []int{2, 44}) {
		t.Error(next)
	}
}
