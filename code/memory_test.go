package code_test

import (
	"reflect"
	"slices"
	"testing"

	"pigeonhole/api"
	"pigeonhole/code"
)

// copied is c in memory of its own, as far as a code's own rows go.
func copied(c api.Code) api.Code {
	d := api.Code{Entries: slices.Clone(c.Entries), Instrs: slices.Clone(c.Instrs), Consts: slices.Clone(c.Consts)}
	for n := range d.Instrs {
		d.Instrs[n].Slots = slices.Clone(d.Instrs[n].Slots)
	}
	return d
}

// What is handed out may be changed: it is told again as it was, and no argument has changed.
func TestAnswersAreNewMemory(t *testing.T) {
	for _, r := range chapter() {
		row := []int{1, 2, 3, 4, 5}
		i := fine()[r.word]
		if r.has("Slots") {
			i.Slots = row[1:3]
		}
		c := frame(i)
		was := copied(c)
		for range 3 {
			reads, next, text := code.Reads(i), code.Next(c, middle), code.Text(i)
			again := [][]int{slices.Clone(reads), slices.Clone(next)}
			for _, list := range [][]int{reads, next} {
				for n := range list {
					list[n] = -99
				}
				list = append(list, -98, -97)
				clear(list[:cap(list)])
			}
			if !slices.Equal(code.Reads(i), again[0]) || !slices.Equal(code.Next(c, middle), again[1]) || code.Text(i) != text {
				t.Errorf("%s: it is told otherwise", r.word)
			}
		}
		if !slices.Equal(row, []int{1, 2, 3, 4, 5}) || !reflect.DeepEqual(c, was) {
			t.Errorf("%s: an argument has changed", r.word)
		}
	}
}

// Two lists of two answers share nothing, also if they are long.
func TestReadsAreApart(t *testing.T) {
	i := api.Instr{Op: api.OpTuple, Slots: repeated(api.MaxSize, 7)}
	one, two := code.Reads(i), code.Reads(i)
	clear(one)
	i.Slots[0] = 8
	if two[0] != 7 || two[api.MaxSize-1] != 7 {
		t.Error("what was handed out has changed")
	}
	if reads := code.Reads(i); reads[0] != 8 || reads[1] != 7 {
		t.Error("what is asked anew stands as it was")
	}
}

func TestRightChangesNothing(t *testing.T) {
	for _, i := range fine() {
		c := frame(i)
		was := copied(c)
		for range 3 {
			if !code.Right(c) || !reflect.DeepEqual(c, was) {
				t.Errorf("%s: not right again, or changed", code.Text(i))
			}
		}
		c.Consts[1].Kind = 99
		if code.Right(c) {
			t.Errorf("%s: still right", code.Text(i))
		}
	}
}
