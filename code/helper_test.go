package code_test

import (
	"math"
	"slices"
	"strings"

	"pigeonhole/api"
	"pigeonhole/code"
)

// A row is one of the chapter's table: an Op, its word, its fields in the order of P18.4, and where it goes on: with the
// next one (next), at L alone (alone), nowhere, or with the next one and at L (both).
type row struct {
	op     api.Op
	word   string
	fields []string
	on     string
}

// chapter is the chapter's table, as it stands there.
func chapter() []row {
	text := `const A,N next|move A,B next|tuple A,Slots next|cons A,B,C next|fun A,N,Slots next|call A,N,Slots next
		|tail N,Slots nowhere|apply A,B,Slots next|tailfun B,Slots nowhere|bif A,Text,Slots next|return B nowhere
		|jump L alone|istuple B,N,L both|iscons B,L both|isconst B,N,L both|issame B,C,L both|elem A,B,N next
		|head A,B next|rest A,B next|guard A,Text,Slots,L both|receive N next|next A,L both|take - next|skip L alone
		|time B next|try A,L both|untry - next|fail B nowhere|raise B nowhere`
	var rows []row
	for n, line := range strings.Split(text, "|") {
		words := strings.Fields(line)
		r := row{op: api.Op(n + 1), word: words[0], on: words[2]}
		if words[1] != "-" {
			r.fields = strings.Split(words[1], ",")
		}
		rows = append(rows, r)
	}
	return rows
}

// fields are all that an instruction has beside its Op.
var fields = []string{"A", "B", "C", "N", "Text", "Slots", "L"}

func (r row) has(field string) bool { return slices.Contains(r.fields, field) }

// others are the Ops that are none.
func others() []api.Op {
	none := []api.Op{0}
	for n := 30; n <= math.MaxUint8; n++ {
		none = append(none, api.Op(n))
	}
	return none
}

// with is i with the field of that name set: a slot, a number, a place n, or the text s, or the Slots row.
func with(i api.Instr, field string, n int, s string, row []int) api.Instr {
	switch field {
	case "A":
		i.A = n
	case "B":
		i.B = n
	case "C":
		i.C = n
	case "N":
		i.N = n
	case "L":
		i.L = n
	case "Text":
		i.Text = s
	case "Slots":
		i.Slots = row
	}
	return i
}

func set(i api.Instr, field string, n int) api.Instr { return with(i, field, n, "", nil) }

// ints are numbers of all kinds, from end to end.
func ints() []int {
	return []int{math.MinInt, math.MinInt + 1, math.MinInt32, -api.MaxCode, -2, -1, 0, 1, 2, 3, 40, 999, 1000, 4095, 4096, api.MaxCode, math.MaxInt32, math.MaxInt - 1, math.MaxInt}
}

// names are texts that name what is built in, and such as name nothing.
func names() []string {
	return []string{"", "+", "-", "not", "element", "is_function", "hd", "reverse", "++", "exit", "setelement", "self", "print",
		"!", "{}", "|", "||", "{", "} ", "none", "Self", "self ", "andalso", "orelse", "\x00", "a'b\\", strings.Repeat("x", api.MaxName), strings.Repeat("x", api.MaxName+1)}
}

// Three functions, of which the second one stands from 2 on to ahead of 7; it has 5 slots. The first one is called with 2,
// the second one with 1 and has 1 captured, the third one is called with 3 and all of them are captured.
const (
	begins = 2
	ends   = 7
	middle = 4
	slots  = 5
	calls  = 0
	ahead  = 1
)

// frame is a right code of these functions and 4 constants, with i at its middle.
func frame(i api.Instr) api.Code {
	c := api.Code{
		Entries: []api.Entry{
			{Name: "f", Arity: 2, Slots: 2},
			{Name: "g", Arity: 2, Extra: 1, Slots: slots, At: begins},
			{Name: "h", Arity: 3, Extra: 3, Slots: 9, At: ends},
			{Name: "k", Slots: 0, At: ends + 2},
		},
		Consts: []api.Term{{Kind: api.Int}, {Kind: api.Atom}, {Kind: api.Tuple}, {Kind: api.List}},
	}
	for range ends + 3 {
		c.Instrs = append(c.Instrs, api.Instr{Op: api.OpTake})
	}
	c.Instrs[middle] = i
	return c
}

// fine is an instruction of each Op, by its word, that is right at the middle of a frame.
func fine() map[string]api.Instr {
	return map[string]api.Instr{
		"const": {Op: api.OpConst, A: 1, N: 2}, "move": {Op: api.OpMove, A: 1, B: 2}, "tuple": {Op: api.OpTuple, A: 1, Slots: []int{2, 3}},
		"cons": {Op: api.OpCons, A: 1, B: 2, C: 3}, "fun": {Op: api.OpFun, A: 1, N: ahead, Slots: []int{2}},
		"call": {Op: api.OpCall, A: 1, N: calls, Slots: []int{2, 3}}, "tail": {Op: api.OpTail, N: calls, Slots: []int{2, 3}},
		"apply": {Op: api.OpApply, A: 1, B: 2, Slots: []int{3, 4}}, "tailfun": {Op: api.OpTailFun, B: 2, Slots: []int{3, 4}},
		"bif": {Op: api.OpBif, A: 1, Text: "++", Slots: []int{2, 3}}, "return": {Op: api.OpReturn, B: 2}, "jump": {Op: api.OpJump, L: 5},
		"istuple": {Op: api.OpIsTuple, B: 2, N: 7, L: 5}, "iscons": {Op: api.OpIsCons, B: 2, L: 5},
		"isconst": {Op: api.OpIsConst, B: 2, N: 2, L: 5}, "issame": {Op: api.OpIsSame, B: 2, C: 3, L: 5},
		"elem": {Op: api.OpElem, A: 1, B: 2, N: 7}, "head": {Op: api.OpHead, A: 1, B: 2}, "rest": {Op: api.OpRest, A: 1, B: 2},
		"guard": {Op: api.OpGuard, A: 1, Text: "+", Slots: []int{2, 3}, L: 5}, "receive": {Op: api.OpReceive, N: 1},
		"next": {Op: api.OpNext, A: 1, L: 5}, "take": {Op: api.OpTake}, "skip": {Op: api.OpSkip, L: 5}, "time": {Op: api.OpTime, B: 2},
		"try": {Op: api.OpTry, A: 1, L: 5}, "untry": {Op: api.OpUntry}, "fail": {Op: api.OpFail, B: 2}, "raise": {Op: api.OpRaise, B: 2},
	}
}

// may tells whether i is right in a frame.
func may(i api.Instr) bool { return code.Right(frame(i)) }

func number(n int) api.Term { return api.Term{Kind: api.Int, Limbs: []uint32{uint32(n)}} }

// flaws are terms that are not right, some of them without an end.
func flaws() []api.Term {
	within := api.Term{Kind: api.Tuple, Items: make([]api.Term, 1)}
	within.Items[0] = within
	tails := api.Term{Kind: api.List, Items: []api.Term{number(1)}, Tail: make([]api.Term, 1)}
	tails.Tail[0] = tails
	wide := api.Term{Kind: api.Tuple, Items: make([]api.Term, 3)}
	for n := range wide.Items {
		wide.Items[n] = wide
	}
	deep := number(1)
	for range 1 << 20 {
		deep = api.Term{Kind: api.Tuple, Items: []api.Term{deep}}
	}
	return []api.Term{
		{}, {Kind: 8}, {Kind: 255}, {Kind: api.Int, Limbs: []uint32{1, 0}}, {Kind: api.Int, Neg: true},
		{Kind: api.Int, Limbs: make([]uint32, 33)}, {Kind: api.Int, Text: "a"}, {Kind: api.Atom, Num: 1},
		{Kind: api.Atom, Text: strings.Repeat("a", api.MaxName+1)}, {Kind: api.Pid, Num: -1}, {Kind: api.Pid, Num: 1<<40 + 1},
		{Kind: api.Fun, Num: api.MaxCode + 1}, {Kind: api.List, Tail: []api.Term{number(1)}},
		{Kind: api.List, Items: []api.Term{number(1)}, Tail: []api.Term{{Kind: api.List}}}, {Kind: api.Tuple, Items: []api.Term{{}}},
		{Kind: api.Tuple, Items: slices.Repeat([]api.Term{{Kind: api.Atom}}, api.MaxSize)}, within, tails, wide, deep,
	}
}
