package code_test

import (
	"math"
	"slices"
	"strings"
	"testing"

	"pigeonhole/api"
	"pigeonhole/code"
)

// passes asks of instructions in a frame whether they are right.
func passes(t *testing.T, what string, want bool, all ...api.Instr) {
	t.Helper()
	for _, i := range all {
		if may(i) != want {
			t.Errorf("%s: %s %+v: %v", what, code.Text(i), i, !want)
		}
	}
}

func TestEachOpIsRight(t *testing.T) {
	for _, r := range chapter() {
		passes(t, r.word, true, fine()[r.word])
	}
	for _, op := range others() {
		passes(t, "none", false, api.Instr{Op: op})
		for _, i := range fine() {
			i.Op = op
			passes(t, "none", false, i)
		}
	}
}

// numbersOf is, of the N of each Op that has one, the first number and the last one that may be, in a frame, with which Slots.
func numbersOf() map[string][2]int {
	return map[string][2]int{"const": {0, 3}, "isconst": {0, 3}, "istuple": {0, 4096}, "elem": {0, 4095}, "receive": {0, 1}}
}

func TestNumbers(t *testing.T) {
	for word, ends := range numbersOf() {
		for _, n := range append(ints(), ends[0]-1, ends[0], ends[1], ends[1]+1) {
			passes(t, word, ends[0] <= n && n <= ends[1], set(fine()[word], "N", n))
		}
	}
}

func TestSlotsAreTheFunctionsOwn(t *testing.T) {
	for _, r := range chapter() {
		for _, field := range []string{"A", "B", "C"} {
			for _, n := range append(ints(), slots-1, slots, slots+1) {
				if r.has(field) {
					passes(t, field, 0 <= n && n < slots, set(fine()[r.word], field, n))
				}
			}
		}
		for place := range fine()[r.word].Slots {
			for _, n := range append(ints(), slots-1, slots, slots+1) {
				i := fine()[r.word]
				i.Slots[place] = n
				passes(t, "Slots", 0 <= n && n < slots, i)
			}
		}
	}
}

func TestNoSlots(t *testing.T) {
	c := frame(api.Instr{Op: api.OpTake})
	for _, i := range []api.Instr{{Op: api.OpMove}, {Op: api.OpConst}, {Op: api.OpReturn}, {Op: api.OpTuple, Slots: []int{0}}} {
		c.Instrs[ends+2] = i
		if code.Right(c) {
			t.Errorf("%s in a function without slots: right", code.Text(i))
		}
	}
	c.Instrs[ends+2] = api.Instr{Op: api.OpTailFun, B: 8}
	c.Instrs[ends+1] = api.Instr{Op: api.OpTailFun, B: 8}
	if code.Right(c) {
		t.Error("the slots of the function ahead count")
	}
	c.Instrs[ends+2] = api.Instr{Op: api.OpTake}
	if !code.Right(c) {
		t.Error("the last slot of the third function")
	}
}

func TestPlacesAreTheFunctionsOwn(t *testing.T) {
	for _, r := range chapter() {
		if !r.has("L") {
			continue
		}
		for _, n := range append(ints(), begins-1, begins, begins+1, middle-1, middle, middle+1, ends-1, ends, ends+1, ends+2, ends+3) {
			passes(t, r.word, begins <= n && n < ends, set(fine()[r.word], "L", n))
		}
	}
	spans := map[int][2]int{0: {0, begins}, 1: {0, begins}, begins: {begins, ends}, ends - 1: {begins, ends}, ends: {ends, ends + 2}, ends + 1: {ends, ends + 2}, ends + 2: {ends + 2, ends + 3}}
	for at, span := range spans {
		for l := -1; l <= ends+4; l++ {
			c := frame(api.Instr{Op: api.OpTake})
			c.Instrs[at] = api.Instr{Op: api.OpJump, L: l}
			if code.Right(c) != (span[0] <= l && l < span[1]) {
				t.Errorf("a jump from %d to %d: %v", at, l, code.Right(c))
			}
		}
	}
}

// What an Op has not is zero, empty; also what would be right, if it had it.
func TestFieldsThatAnOpHasNot(t *testing.T) {
	for _, r := range chapter() {
		i := fine()[r.word]
		for _, field := range fields {
			if r.has(field) {
				continue
			}
			passes(t, field, true, with(i, field, 0, "", []int{}), with(i, field, 0, "", nil))
			if field == "Text" || field == "Slots" {
				passes(t, field, false, with(i, field, 0, "+", []int{1}), with(i, field, 0, "\x00", []int{0, 0}), with(i, field, 0, "self", []int{-1}))
				continue
			}
			for _, n := range append(ints(), middle) {
				passes(t, field, n == 0, set(i, field, n))
			}
		}
	}
}

func repeated(n, slot int) []int { return slices.Repeat([]int{slot}, n) }

func TestRowsOfSlots(t *testing.T) {
	for _, i := range []api.Instr{{Op: api.OpTuple}, {Op: api.OpApply}, {Op: api.OpTailFun}, {Op: api.OpGuard, Text: "{}", L: 5}} {
		for _, n := range []int{0, 1, 2, 3, 12, 13, 1000, 1001, api.MaxSize - 1, api.MaxSize} {
			i.Slots = repeated(n, 4)
			passes(t, "of a row", true, i)
		}
		for _, n := range []int{api.MaxSize + 1, api.MaxSize + 2, 2 * api.MaxSize} {
			i.Slots = repeated(n, 4)
			if may(i) {
				t.Errorf("Op %d with %d slots: right", i.Op, n)
			}
		}
		for _, place := range []int{0, 1, 2047, api.MaxSize - 1} {
			i.Slots = repeated(api.MaxSize, 0)
			i.Slots[place] = slots
			if may(i) {
				t.Errorf("Op %d with a wrong slot at %d: right", i.Op, place)
			}
		}
	}
}

func TestFunctionsThatAreCalled(t *testing.T) {
	rows := map[string][]struct {
		function, many int
	}{
		"fun":  {{0, 0}, {1, 1}, {2, 3}, {3, 0}},
		"call": {{0, 2}, {3, 0}},
		"tail": {{0, 2}, {3, 0}},
	}
	for word, may := range rows {
		for _, n := range append(ints(), 0, 1, 2, 3, 4, 5) {
			for many := range 15 {
				i := fine()[word]
				i.N, i.Slots = n, repeated(many, 1)
				right := slices.Contains(may, struct{ function, many int }{n, many})
				passes(t, word, right, i)
			}
		}
	}
}

// A function of the greatest arity has that many slots, of a call all, of a fun those that are captured.
func TestFunctionsOfTheGreatestArity(t *testing.T) {
	for extra := range api.MaxArity + 1 {
		for many := range api.MaxArity + 3 {
			c := frame(api.Instr{Op: api.OpFun, N: 3, Slots: repeated(many, 1)})
			c.Entries[3] = api.Entry{At: ends + 2, Arity: api.MaxArity, Extra: extra, Slots: api.MaxArity}
			if code.Right(c) != (many == extra) {
				t.Errorf("a fun of %d with %d captured: %v", many, extra, code.Right(c))
			}
			for _, i := range []api.Instr{{Op: api.OpCall, N: 3, Slots: repeated(many, 1)}, {Op: api.OpTail, N: 3, Slots: repeated(many, 1)}} {
				c.Instrs[middle] = i
				if code.Right(c) != (many == api.MaxArity && extra == 0) {
					t.Errorf("a call with %d, %d captured: %v", many, extra, code.Right(c))
				}
			}
		}
	}
}

// called is the names of chapter 7's table, by kinds and arities.
func called() map[string]map[int]string {
	return map[string]map[int]string{
		"guards": {
			1: "+ - not abs hd tl length tuple_size is_integer is_atom is_tuple is_list is_pid is_reference is_function is_boolean",
			2: "+ - * div rem == /= =:= =/= < =< > >= and or xor element is_function",
		},
		"pure": {
			1: "tuple_to_list list_to_tuple atom_to_list list_to_atom integer_to_list list_to_integer reverse sum sort usort last throw error exit",
			2: "++ -- max min nth nthtail member seq", 3: "setelement",
		},
		"world": {
			0: "self make_ref now",
			1: "spawn spawn_link spawn_monitor link unlink monitor demonitor trap_exit unregister whereis print", 2: "! exit register",
		},
	}
}

func isCalled(kind, name string, arity int) bool {
	return slices.Contains(strings.Fields(called()[kind][arity]), name)
}

func TestNamesThatAreCalled(t *testing.T) {
	all := names()
	for _, arities := range called() {
		for _, row := range arities {
			all = append(all, strings.Fields(row)...)
		}
	}
	for _, name := range all {
		for arity := range 6 {
			guard := isCalled("guards", name, arity)
			bif := guard || isCalled("pure", name, arity) || isCalled("world", name, arity)
			passes(t, "bif", bif, api.Instr{Op: api.OpBif, Text: name, Slots: repeated(arity, 1)})
			own := name == "{}" || name == "|" && arity == 2
			passes(t, "guard", guard || own, api.Instr{Op: api.OpGuard, Text: name, Slots: repeated(arity, 1), L: 5})
		}
		for _, many := range []int{256, 257, 258, 259, 4096, 4097} {
			passes(t, "bif of many", false, api.Instr{Op: api.OpBif, Text: name, Slots: repeated(many, 1)})
			passes(t, "guard of many", name == "{}" && many <= api.MaxSize, api.Instr{Op: api.OpGuard, Text: name, Slots: repeated(many, 1), L: 5})
		}
	}
}

// By hand, what TestNamesThatAreCalled has out of a table.
func TestKindsOfNames(t *testing.T) {
	two, three := []int{1, 2}, []int{1, 2, 3}
	for _, x := range []struct {
		text       string
		slots      []int
		bif, guard bool
	}{
		{"self", nil, true, false}, {"self", two[:1], false, false}, {"+", two, true, true}, {"+", two[:1], true, true}, {"+", nil, false, false},
		{"++", two, true, false}, {"hd", two[:1], true, true}, {"setelement", three, true, false}, {"{}", nil, false, true},
		{"{}", two[:1], false, true}, {"{}", two, false, true}, {"{}", three, false, true}, {"|", nil, false, false}, {"|", two[:1], false, false},
		{"|", two, false, true}, {"|", three, false, false}, {"", nil, false, false}, {"print", two[:1], true, false}, {"!", two, true, false},
		{"andalso", two, false, false}, {"[]", nil, false, false}, {"[|]", two, false, false},
	} {
		passes(t, "bif", x.bif, api.Instr{Op: api.OpBif, Text: x.text, Slots: x.slots})
		passes(t, "guard", x.guard, api.Instr{Op: api.OpGuard, Text: x.text, Slots: x.slots, L: 5})
	}
}

// Each instruction counts, wherever it stands.
func TestEachInstruction(t *testing.T) {
	for at := range ends + 3 {
		c := frame(api.Instr{Op: api.OpTake})
		if !code.Right(c) {
			t.Fatal("a right frame")
		}
		c.Instrs[at].A = 1
		if code.Right(c) {
			t.Errorf("a wrong instruction at %d: right", at)
		}
	}
}

func TestExtremes(t *testing.T) {
	for _, n := range []int{math.MinInt, math.MaxInt} {
		wild := api.Instr{A: n, B: n, C: n, N: n, L: n, Text: strings.Repeat("a", 1<<16), Slots: repeated(1<<16, n)}
		for op := range math.MaxUint8 + 1 {
			wild.Op = api.Op(op)
			if may(wild) {
				t.Errorf("Op %d at the ends of all ints: right", op)
			}
		}
	}
}
