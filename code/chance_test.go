package code_test

import (
	"math/rand"
	"slices"
	"strconv"
	"testing"

	"pigeonhole/api"
	"pigeonhole/code"
	"pigeonhole/term"
)

// rows is the table once and for all.
var rows = chapter()

// inside tells whether n is from 0 to below how many there are.
func inside(n, many int) bool { return n >= 0 && n < many }

// rightInstr is the chapter's table once more: whether i, the at-th one, is right in c, whose entries are.
func rightInstr(c api.Code, at int) bool {
	i := c.Instrs[at]
	if !inside(int(i.Op)-1, 29) {
		return false
	}
	own := c.Entries[0]
	end := len(c.Instrs)
	for _, e := range c.Entries {
		if e.At <= at {
			own = e
		} else {
			end = min(end, e.At)
		}
	}
	r := rows[i.Op-1]
	for _, field := range fields {
		if !r.has(field) && !slices.Contains([]bool{field == "A" && i.A == 0, field == "B" && i.B == 0, field == "C" && i.C == 0, field == "N" && i.N == 0,
			field == "L" && i.L == 0, field == "Text" && i.Text == "", field == "Slots" && len(i.Slots) == 0}, true) {
			return false
		}
	}
	for _, slot := range append([]int{}, i.Slots...) {
		if !inside(slot, own.Slots) {
			return false
		}
	}
	if r.has("A") && !inside(i.A, own.Slots) || r.has("B") && !inside(i.B, own.Slots) || r.has("C") && !inside(i.C, own.Slots) || len(i.Slots) > 4096 {
		return false
	}
	return (!r.has("L") || own.At <= i.L && i.L < end) && rightRest(c, i, r.word)
}

// rightRest is what the chapter's table says of N, Text and how many Slots.
func rightRest(c api.Code, i api.Instr, word string) bool {
	var called api.Entry
	if inside(i.N, len(c.Entries)) {
		called = c.Entries[i.N]
	}
	guard, bif := isCalled("guards", i.Text, len(i.Slots)), isCalled("pure", i.Text, len(i.Slots)) || isCalled("world", i.Text, len(i.Slots))
	switch word {
	case "const", "isconst":
		return inside(i.N, len(c.Consts))
	case "fun":
		return inside(i.N, len(c.Entries)) && len(i.Slots) == called.Extra
	case "call", "tail":
		return inside(i.N, len(c.Entries)) && len(i.Slots) == called.Arity && called.Extra == 0
	case "bif":
		return guard || bif
	case "guard":
		return guard || i.Text == "{}" || i.Text == "|" && len(i.Slots) == 2
	case "istuple":
		return inside(i.N, 4097)
	case "elem":
		return inside(i.N, 4096)
	case "receive":
		return inside(i.N, 2)
	}
	return true
}

// rightCode is the chapter's words once more.
func rightCode(c api.Code) bool {
	for n, e := range c.Entries {
		if n == 0 && e.At != 0 || n > 0 && e.At <= c.Entries[n-1].At || e.At >= len(c.Instrs) || len(e.Name) > 40 {
			return false
		}
		if !(0 <= e.Extra && e.Extra <= e.Arity && e.Arity <= 12 && e.Arity <= e.Slots && e.Slots <= 1000) {
			return false
		}
	}
	for _, constant := range c.Consts {
		if !term.Right(constant) {
			return false
		}
	}
	for at := range c.Instrs {
		if len(c.Entries) == 0 || !rightInstr(c, at) {
			return false
		}
	}
	return true
}

// tells is P18.4 once more.
func tells(i api.Instr) string {
	if !inside(int(i.Op)-1, 29) {
		return "?"
	}
	r := rows[i.Op-1]
	text := r.word
	for _, field := range r.fields {
		text += " "
		switch field {
		case "A":
			text += "s" + strconv.Itoa(i.A)
		case "B":
			text += "s" + strconv.Itoa(i.B)
		case "C":
			text += "s" + strconv.Itoa(i.C)
		case "N":
			text += "#" + strconv.Itoa(i.N)
		case "L":
			text += "@" + strconv.Itoa(i.L)
		case "Text":
			text += term.Text(api.Term{Kind: api.Atom, Text: i.Text})
		case "Slots":
			text += "("
			for n, slot := range i.Slots {
				text += []string{"", " "}[min(n, 1)] + "s" + strconv.Itoa(slot)
			}
			text += ")"
		}
	}
	return text
}

// A maker makes codes by chance.
type maker struct{ *rand.Rand }

// near is a number that is most often from 0 to below many, at times an end or one past it, seldom any.
func (m maker) near(many int) int {
	switch m.Intn(40) {
	case 0:
		return many
	case 1:
		return -1
	case 2:
		return ints()[m.Intn(len(ints()))]
	}
	return m.Intn(max(1, many))
}

func (m maker) row(many, of int) []int {
	row := make([]int, min(9, max(0, many)))
	for n := range row {
		row[n] = m.near(of)
	}
	return row
}

// instr is an instruction of the function own, which goes from its At to ahead of end.
func (m maker) instr(c api.Code, own api.Entry, end int) api.Instr {
	i := api.Instr{Op: api.Op(1 + m.near(29))}
	r := rows[min(28, max(0, int(i.Op)-1))]
	called := m.Intn(len(c.Entries))
	for _, field := range fields {
		if !r.has(field) && m.Intn(150) > 0 {
			continue
		}
		switch field {
		case "Text":
			i.Text = names()[m.Intn(len(names()))]
		case "Slots":
			many := m.Intn(4)
			if r.word == "fun" {
				many = c.Entries[called].Extra
			} else if r.has("N") && m.Intn(20) > 0 {
				many = c.Entries[called].Arity
			}
			i.Slots = m.row(many, own.Slots)
		case "L":
			i.L = own.At + m.near(end-own.At)
		case "N":
			i.N = m.near(2)
			if r.word == "const" || r.word == "isconst" {
				i.N = m.near(len(c.Consts))
			} else if r.has("Slots") {
				i.N = called
			}
		default:
			i = set(i, field, m.near(own.Slots))
		}
	}
	return i
}

// code is a code by chance.
func (m maker) code() api.Code {
	var c api.Code
	at := 0
	for n := range 1 + m.Intn(4) {
		e := api.Entry{Name: names()[m.Intn(len(names())-1)], Arity: m.Intn(4), At: at}
		e.Extra = m.near(e.Arity + 1)
		e.Slots = e.Arity + m.Intn(5)
		if m.Intn(3) > 0 {
			e.Extra = 0
		}
		if m.Intn(60) == 0 {
			e.At += m.Intn(5) - 2
		}
		if n == 3 && m.Intn(20) == 0 {
			e.Slots = e.Arity - 1
		}
		c.Entries = append(c.Entries, e)
		at += 1 + m.Intn(4)
	}
	for range m.Intn(4) {
		c.Consts = append(c.Consts, api.Term{Kind: api.Kind(1 + m.near(7))})
	}
	c.Instrs = make([]api.Instr, at)
	for n, e := range c.Entries {
		end := at
		if n+1 < len(c.Entries) {
			end = c.Entries[n+1].At
		}
		for place := max(0, e.At); place < min(end, at); place++ {
			c.Instrs[place] = m.instr(c, e, end)
		}
	}
	return c
}

func TestByChance(t *testing.T) {
	m := maker{rand.New(rand.NewSource(18))}
	fits := 0
	for range 40000 {
		c := m.code()
		want := rightCode(c)
		if code.Right(c) != want {
			t.Fatalf("%+v: %v", c, !want)
		}
		if want {
			fits++
			follows(t, c)
		}
		for _, i := range c.Instrs {
			if text := code.Text(i); text != tells(i) {
				t.Fatalf("%+v: %q, not %q", i, text, tells(i))
			}
		}
	}
	if fits < 3000 || fits > 37000 {
		t.Errorf("of 40000 codes %d are right", fits)
	}
}

// follows asks of a right code what P18.5 says.
func follows(t *testing.T, c api.Code) {
	t.Helper()
	for n, e := range c.Entries {
		end := len(c.Instrs)
		if n+1 < len(c.Entries) {
			end = c.Entries[n+1].At
		}
		for at := e.At; at < end; at++ {
			next := code.Next(c, at)
			for _, place := range next {
				if place < e.At || place > end {
					t.Fatalf("%+v: from %d it goes on at %d", c, at, place)
				}
			}
			if !slices.IsSorted(next) || len(slices.Compact(slices.Clone(next))) != len(next) {
				t.Fatalf("%+v: from %d it goes on at %v", c, at, next)
			}
		}
	}
}

// One thing told of any instruction is what is told of it each time, and no more fields than its Op has change it.
func TestOnlyItsFieldsTell(t *testing.T) {
	for _, r := range chapter() {
		i := fine()[r.word]
		for _, field := range fields {
			if r.has(field) {
				continue
			}
			j := with(i, field, 77, "x", []int{7})
			a, ok := code.Writes(i)
			b, too := code.Writes(j)
			one, two := code.Next(frame(i), middle), code.Next(frame(j), middle)
			if code.Text(i) != code.Text(j) || !slices.Equal(code.Reads(i), code.Reads(j)) || a != b || ok != too || !slices.Equal(one, two) {
				t.Errorf("%s with %s: told otherwise", r.word, field)
			}
		}
	}
}
