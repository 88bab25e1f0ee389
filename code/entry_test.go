package code_test

import (
	"math"
	"slices"
	"strings"
	"testing"

	"pigeonhole/api"
	"pigeonhole/code"
)

func takes(n int) []api.Instr { return slices.Repeat([]api.Instr{{Op: api.OpTake}}, n) }

// rightly asks whether c is right.
func rightly(t *testing.T, what string, want bool, c api.Code) {
	t.Helper()
	if code.Right(c) != want {
		t.Errorf("%s: %v", what, !want)
	}
}

func TestNoEntries(t *testing.T) {
	rightly(t, "nothing", true, api.Code{})
	rightly(t, "empty rows", true, api.Code{Entries: []api.Entry{}, Instrs: []api.Instr{}, Consts: []api.Term{}})
	rightly(t, "constants alone", true, api.Code{Consts: []api.Term{{Kind: api.Int}}})
	rightly(t, "a wrong constant alone", false, api.Code{Consts: []api.Term{{}}})
	rightly(t, "instructions alone", false, api.Code{Instrs: takes(1)})
	rightly(t, "many alone", false, api.Code{Instrs: takes(api.MaxCode)})
	rightly(t, "an entry alone", false, api.Code{Entries: []api.Entry{{}}})
	rightly(t, "two alone", false, api.Code{Entries: []api.Entry{{}, {At: 1}}})
}

func TestWhereEntriesBegin(t *testing.T) {
	for _, x := range []struct {
		instrs int
		places []int
		ok     bool
	}{
		{1, []int{0}, true}, {1, []int{1}, false}, {1, []int{-1}, false}, {1, []int{0, 0}, false}, {1, []int{0, 1}, false}, {2, []int{0, 1}, true},
		{2, []int{1}, false}, {2, []int{1, 0}, false}, {3, []int{0, 2}, true}, {3, []int{0, 3}, false}, {3, []int{0, 4}, false}, {3, []int{0, 1, 2}, true},
		{3, []int{0, 1, 1}, false}, {3, []int{0, 2, 1}, false}, {3, []int{0, 2, 2}, false}, {3, []int{0, 1, 2, 3}, false}, {3, []int{0, 0, 1}, false},
		{3, []int{0, -1}, false}, {3, []int{0, -1, 1}, false}, {3, []int{0, math.MaxInt}, false}, {3, []int{0, math.MinInt}, false},
		{3, []int{math.MinInt}, false}, {3, []int{math.MaxInt}, false}, {3, []int{0, math.MaxInt, 1}, false}, {9, []int{0, 8}, true}, {9, []int{0, 8, 9}, false},
		{9, []int{1, 8}, false}, {9, []int{-1, 0}, false}, {9, []int{0, 3, 5}, true}, {9, []int{0, 5, 3}, false},
	} {
		c := api.Code{Instrs: takes(x.instrs)}
		for _, at := range x.places {
			c.Entries = append(c.Entries, api.Entry{At: at})
		}
		if code.Right(c) != x.ok {
			t.Errorf("%v of %d: %v", x.places, x.instrs, !x.ok)
		}
	}
}

// entries asks of an entry as the first, the second and the last of three whether it is right.
func entries(t *testing.T, e api.Entry, want bool) {
	t.Helper()
	for n := range 3 {
		c := api.Code{Instrs: takes(5), Entries: []api.Entry{{}, {At: 2}, {At: 4}}}
		e.At = c.Entries[n].At
		c.Entries[n] = e
		if code.Right(c) != want {
			t.Errorf("%d: %+v: %v", n, e, !want)
		}
	}
}

func TestEntries(t *testing.T) {
	long := strings.Repeat("n", api.MaxName)
	for _, e := range []api.Entry{
		{}, {Name: "f"}, {Name: long}, {Name: "\x00\xff 'q"}, {Slots: 1}, {Slots: 999}, {Slots: 1000}, {Arity: 1, Slots: 1}, {Arity: 1, Slots: 1000},
		{Arity: 11, Slots: 11}, {Arity: 12, Slots: 12}, {Arity: 12, Slots: 13}, {Arity: 12, Extra: 12, Slots: 12}, {Arity: 12, Extra: 11, Slots: 1000}, {Arity: 3, Extra: 3, Slots: 3},
	} {
		entries(t, e, true)
	}
	for _, e := range []api.Entry{
		{Name: long + "n"}, {Name: strings.Repeat("n", 1<<16)}, {Slots: -1}, {Slots: math.MinInt}, {Slots: 1001}, {Slots: 1002}, {Slots: math.MaxInt},
		{Arity: 1}, {Arity: 2, Slots: 1}, {Arity: 12, Slots: 11}, {Arity: 12}, {Arity: 13, Slots: 13}, {Arity: 13, Slots: 1000},
		{Arity: 13, Extra: 13, Slots: 13}, {Arity: 14, Slots: 14}, {Arity: math.MaxInt, Slots: 1000}, {Arity: math.MaxInt, Slots: math.MaxInt},
		{Arity: -1}, {Arity: -1, Slots: 1}, {Arity: -1, Extra: -1}, {Arity: -1, Extra: -1, Slots: -1}, {Arity: math.MinInt, Slots: math.MinInt},
		{Arity: math.MinInt, Extra: math.MinInt, Slots: 0}, {Extra: 1}, {Extra: 1, Slots: 1}, {Arity: 1, Extra: 2, Slots: 2}, {Arity: 12, Extra: 13, Slots: 13},
		{Arity: 1, Extra: -1, Slots: 1}, {Extra: -1}, {Extra: math.MinInt}, {Extra: math.MaxInt}, {Arity: 12, Extra: math.MaxInt, Slots: 12}, {Arity: 12, Extra: math.MinInt, Slots: 12},
	} {
		entries(t, e, false)
	}
}

func TestConstants(t *testing.T) {
	whole := func(consts ...api.Term) api.Code {
		return api.Code{Entries: []api.Entry{{Slots: 1}}, Instrs: []api.Instr{{Op: api.OpReturn}}, Consts: consts}
	}
	full := api.Term{Kind: api.Tuple, Items: slices.Repeat([]api.Term{{Kind: api.Atom}}, api.MaxSize-1)}
	fits := []api.Term{{Kind: api.Int}, {Kind: api.Atom, Text: "a"}, {Kind: api.Ref, Num: 1 << 40}, {Kind: api.Fun, Num: api.MaxCode}, {Kind: api.Pid}, {Kind: api.List, Items: []api.Term{{Kind: api.Int}}, Tail: []api.Term{{Kind: api.Atom}}}, full}
	rightly(t, "right constants", true, whole(fits...))
	for n, flaw := range flaws() {
		rightly(t, "a wrong constant", false, whole(flaw))
		for at := range len(fits) + 1 {
			c := whole(slices.Insert(slices.Clone(fits), at, flaw)...)
			if code.Right(c) {
				t.Errorf("the wrong constant %d at %d: right", n, at)
			}
		}
	}
}

func TestLimits(t *testing.T) {
	const most = api.MaxCode
	for _, more := range []int{0, 1} {
		instrs := api.Code{Entries: []api.Entry{{}}, Instrs: takes(most + more)}
		rightly(t, "instructions", more == 0, instrs)
		consts := api.Code{Consts: slices.Repeat([]api.Term{{Kind: api.Int}}, most+more)}
		rightly(t, "constants", more == 0, consts)
		of := api.Code{Entries: []api.Entry{{Slots: 1}}, Instrs: []api.Instr{{Op: api.OpConst, N: most - 1 + more}}, Consts: consts.Consts[:most]}
		rightly(t, "the last constant", more == 0, of)
		jump := api.Code{Entries: []api.Entry{{}}, Instrs: takes(most)}
		jump.Instrs[0] = api.Instr{Op: api.OpJump, L: most - 1 + more}
		rightly(t, "the last place", more == 0, jump)
	}
	all := api.Code{Instrs: takes(most), Consts: slices.Repeat([]api.Term{{Kind: api.Tuple}}, most)}
	for n := range most {
		all.Entries = append(all.Entries, api.Entry{At: n})
	}
	all.Instrs[7] = api.Instr{Op: api.OpTail, N: most - 1}
	rightly(t, "as many functions as may be", true, all)
	all.Instrs[7] = api.Instr{Op: api.OpTail, N: most}
	rightly(t, "a call of one more", false, all)
	all.Instrs = takes(most + 1)
	all.Entries = append(all.Entries, api.Entry{At: most})
	rightly(t, "one more of each", false, all)
	all.Instrs = takes(most)
	all.Entries = slices.Repeat([]api.Entry{{}}, 1<<20)
	rightly(t, "many entries", false, all)
}

// Slots to 1000, the last one among them.
func TestThousandSlots(t *testing.T) {
	for _, i := range []api.Instr{{Op: api.OpMove, A: 999, B: 999}, {Op: api.OpTuple, A: 999, Slots: []int{0, 999}}} {
		c := api.Code{Entries: []api.Entry{{Slots: 1000}}, Instrs: []api.Instr{i}}
		rightly(t, "the last of 1000 slots", true, c)
		c.Entries[0].Slots = 999
		rightly(t, "the last of 1000 slots, of 999", false, c)
	}
}

// All of it at its limit ends soon.
func TestGreatCodes(t *testing.T) {
	c := api.Code{Entries: []api.Entry{{Slots: 1000}}}
	c.Instrs = slices.Repeat([]api.Instr{{Op: api.OpTuple, A: 999, Slots: repeated(api.MaxSize, 999)}}, api.MaxCode)
	c.Consts = slices.Repeat([]api.Term{{Kind: api.Tuple, Items: slices.Repeat([]api.Term{{Kind: api.Pid}}, api.MaxSize-1)}}, api.MaxCode)
	rightly(t, "great", true, c)
	c.Consts[api.MaxCode-1] = api.Term{}
	rightly(t, "great, with a wrong end", false, c)
	c.Consts[api.MaxCode-1] = api.Term{Kind: api.Pid}
	c.Instrs[api.MaxCode-1].Slots = append(repeated(api.MaxSize-1, 0), 1000)
	rightly(t, "great, with a wrong slot", false, c)
}
