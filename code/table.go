package code

import (
	"strings"

	"pigeonhole/api"
)

// every is all fields that an instruction may have, in the order in which they are told: A, B, C, N, Text (T), Slots (S), L.
const every = "ABCNTSL"

// A form is what the instructions of one Op are like: the word for it, which fields they have, and whether they never go
// on with the next one. Who has an L goes on there, too.
type form struct {
	word   string
	fields string
	parts  bool
}

// forms is the forms of all Ops; what stands at the place of none has no word.
var forms = [...]form{
	api.OpConst:   {"const", "AN", false},
	api.OpMove:    {"move", "AB", false},
	api.OpTuple:   {"tuple", "AS", false},
	api.OpCons:    {"cons", "ABC", false},
	api.OpFun:     {"fun", "ANS", false},
	api.OpCall:    {"call", "ANS", false},
	api.OpTail:    {"tail", "NS", true},
	api.OpApply:   {"apply", "ABS", false},
	api.OpTailFun: {"tailfun", "BS", true},
	api.OpBif:     {"bif", "ATS", false},
	api.OpReturn:  {"return", "B", true},
	api.OpJump:    {"jump", "L", true},
	api.OpIsTuple: {"istuple", "BNL", false},
	api.OpIsCons:  {"iscons", "BL", false},
	api.OpIsConst: {"isconst", "BNL", false},
	api.OpIsSame:  {"issame", "BCL", false},
	api.OpElem:    {"elem", "ABN", false},
	api.OpHead:    {"head", "AB", false},
	api.OpRest:    {"rest", "AB", false},
	api.OpGuard:   {"guard", "ATSL", false},
	api.OpReceive: {"receive", "N", false},
	api.OpNext:    {"next", "AL", false},
	api.OpTake:    {"take", "", false},
	api.OpSkip:    {"skip", "L", true},
	api.OpTime:    {"time", "B", false},
	api.OpTry:     {"try", "AL", false},
	api.OpUntry:   {"untry", "", false},
	api.OpFail:    {"fail", "B", true},
	api.OpRaise:   {"raise", "B", true},
}

// formOf is the form of an Op, and whether that is one.
func formOf(op api.Op) (form, bool) {
	if int(op) >= len(forms) {
		return form{}, false
	}
	return forms[op], forms[op].word != ""
}

// has tells whether instructions of that form have the field.
func (f form) has(field rune) bool {
	return strings.ContainsRune(f.fields, field)
}

// each asks of the fields that i has, one by one, in their order.
func each(i api.Instr, ask func(field rune)) {
	f, _ := formOf(i.Op)
	for _, field := range f.fields {
		ask(field)
	}
}
