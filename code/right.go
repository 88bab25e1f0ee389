package code

import (
	"slices"

	"pigeonhole/api"
	"pigeonhole/lint"
	"pigeonhole/term"
)

// maxSlots is how many slots a function has at most.
const maxSlots = 1000

// Right tells whether c is a right code.
func Right(c api.Code) bool {
	if len(c.Entries) > api.MaxCode || len(c.Instrs) > api.MaxCode || len(c.Consts) > api.MaxCode {
		return false
	}
	if len(c.Entries) == 0 && len(c.Instrs) > 0 {
		return false
	}
	wrong := func(constant api.Term) bool { return !term.Right(constant) }
	return rightEntries(c) && rightInstrs(c) && !slices.ContainsFunc(c.Consts, wrong)
}

// rightEntries tells whether each entry is right, and has an instruction of its own.
func rightEntries(c api.Code) bool {
	ahead := -1
	for n, e := range c.Entries {
		if e.At <= ahead || e.At >= len(c.Instrs) || n == 0 && e.At != 0 {
			return false
		}
		if len(e.Name) > api.MaxName || e.Extra < 0 || e.Extra > e.Arity || e.Arity > api.MaxArity {
			return false
		}
		if e.Slots < e.Arity || e.Slots > maxSlots {
			return false
		}
		ahead = e.At
	}
	return true
}

// rightInstrs tells whether each instruction is right in its function.
func rightInstrs(c api.Code) bool {
	for n, e := range c.Entries {
		end := len(c.Instrs)
		if n+1 < len(c.Entries) {
			end = c.Entries[n+1].At
		}
		in := place{code: c, slots: e.Slots, at: e.At, end: end}
		for _, i := range c.Instrs[e.At:end] {
			if !in.right(i) {
				return false
			}
		}
	}
	return true
}

// A place is what an instruction stands in: the code, and of its function how many slots it has, where it begins, and
// what is the first place behind it.
type place struct {
	code    api.Code
	slots   int
	at, end int
}

// right tells whether i may stand in p: each field that it has is as it may be, all others are empty.
func (p place) right(i api.Instr) bool {
	f, ok := formOf(i.Op)
	for _, field := range every {
		if f.has(field) {
			ok = ok && p.may(i, field)
		} else {
			ok = ok && empty(i, field)
		}
	}
	return ok
}

// empty tells whether i has nothing in that field.
func empty(i api.Instr, field rune) bool {
	switch field {
	case 'A':
		return i.A == 0
	case 'B':
		return i.B == 0
	case 'C':
		return i.C == 0
	case 'N':
		return i.N == 0
	case 'T':
		return i.Text == ""
	case 'S':
		return len(i.Slots) == 0
	}
	return i.L == 0
}

// may tells whether i, which has that field, may have in it what it has.
func (p place) may(i api.Instr, field rune) bool {
	switch field {
	case 'A':
		return p.slot(i.A)
	case 'B':
		return p.slot(i.B)
	case 'C':
		return p.slot(i.C)
	case 'N':
		return p.number(i)
	case 'T':
		return named(i)
	case 'S':
		other := func(slot int) bool { return !p.slot(slot) }
		return p.many(i) && !slices.ContainsFunc(i.Slots, other)
	}
	return i.L >= p.at && i.L < p.end
}

// below tells whether n is from 0 to below how many there are.
func below(n, many int) bool {
	return n >= 0 && n < many
}

func (p place) slot(n int) bool {
	return below(n, p.slots)
}

// number tells whether i may have its N.
func (p place) number(i api.Instr) bool {
	switch i.Op {
	case api.OpConst, api.OpIsConst:
		return below(i.N, len(p.code.Consts))
	case api.OpFun, api.OpCall, api.OpTail:
		// A fun's captures are not what a call has to hand over.
		return below(i.N, len(p.code.Entries)) && (i.Op == api.OpFun || p.code.Entries[i.N].Extra == 0)
	case api.OpIsTuple:
		return below(i.N, api.MaxSize+1)
	case api.OpElem:
		return below(i.N, api.MaxSize)
	}
	return below(i.N, 2)
}

// many tells whether i may have so many Slots; its N has been asked ahead.
func (p place) many(i api.Instr) bool {
	if len(i.Slots) > api.MaxSize {
		return false
	}
	switch i.Op {
	case api.OpFun:
		return len(i.Slots) == p.code.Entries[i.N].Extra
	case api.OpCall, api.OpTail:
		return len(i.Slots) == p.code.Entries[i.N].Arity
	}
	return true
}

// named tells whether what i calls by its Text is there, for so many Slots.
func named(i api.Instr) bool {
	kind := lint.Kind(i.Text, len(i.Slots))
	if i.Op == api.OpBif {
		return kind != lint.None
	}
	return kind == lint.Guards || i.Text == "{}" || i.Text == "|" && len(i.Slots) == 2
}
