package bif_test

import (
	"slices"
	"strings"
	"testing"

	"pigeonhole/api"
	"pigeonhole/term"
)

// tupleOf is a tuple of that size, of small items.
func tupleOf(size int) api.Term { return tuple(times(size-1, atom("a"))...) }

// listOf is a proper list of that size; its last item is an integer of one limb, if need be.
func listOf(size int) api.Term {
	items := times((size-1)/2, atom("a"))
	if size%2 == 0 {
		items[len(items)-1] = num(1)
	}
	return list(items...)
}

// deep is a term of that size, one tuple in another.
func deep(size int) api.Term {
	t := atom("a")
	for range size - 1 {
		t = tuple(t)
	}
	return t
}

// What the tests below take for terms of a size are such.
func TestSizesOfTheTests(t *testing.T) {
	for _, size := range []int{3, 4, 100, 101, 4094, 4095, 4096} {
		for _, x := range []api.Term{tupleOf(size), listOf(size), deep(size)} {
			if term.Size(x) != size {
				t.Errorf("%d, not %d", term.Size(x), size)
			}
		}
	}
}

// P10.1: the greatest term, and one that is one more.
func TestLimitOfJoined(t *testing.T) {
	for _, size := range []int{3, 4, 5, 100, 2047, 2048, 2049, 4090, 4093} {
		a := listOf(size)
		for _, more := range []int{4, 3, 2, 1, 0, -1, -2} {
			// A list's own 1 is there once, of two lists that are put together.
			if rest := api.MaxSize - size + more; rest >= 3 && rest <= api.MaxSize {
				b := listOf(rest)
				if more <= 1 {
					gives(t, list(slices.Concat(a.Items, b.Items)...), "++", a, b)
				} else {
					fails(t, tooGreat, "++", a, b)
				}
			}
			if rest := api.MaxSize - size + more; rest >= 1 && rest <= api.MaxSize {
				for _, b := range []api.Term{tupleOf(rest), deep(rest)} {
					if more <= 0 {
						gives(t, improper(b, a.Items...), "++", a, b)
					} else {
						fails(t, tooGreat, "++", a, b)
					}
				}
			}
		}
	}
	greatest := listOf(api.MaxSize)
	gives(t, greatest, "++", greatest, list())
	gives(t, greatest, "++", list(), greatest)
	gives(t, tupleOf(api.MaxSize), "++", list(), tupleOf(api.MaxSize))
	fails(t, tooGreat, "++", greatest, list(atom("a")))
	fails(t, tooGreat, "++", list(atom("a")), greatest)
	fails(t, tooGreat, "++", greatest, atom("a"))
	fails(t, tooGreat, "++", greatest, greatest)
	fails(t, tooGreat, "++", greatest, tupleOf(api.MaxSize))
	// The tail of an improper list counts too: 1 of its own, and what it is.
	last := improper(atom("b"), atom("a"))
	gives(t, improper(atom("b"), append(slices.Clone(listOf(4093).Items), atom("a"))...), "++", listOf(4093), last)
	fails(t, tooGreat, "++", listOf(4094), last)
	fails(t, badArg, "++", improper(atom("b"), times(2046, atom("a"))...), list(atom("a")))
}

// P10.1
func TestLimitOfSeq(t *testing.T) {
	for _, c := range []struct {
		a, b  api.Term
		count int // how many, if they fit
	}{
		{num(1), num(1365), 1365}, {num(1), num(1366), 0}, {num(2), num(1366), 1365}, {num(2), num(1367), 0},
		{num(0), num(1364), 1365}, {num(0), num(1365), 0}, {num(-682), num(682), 1365}, {num(-682), num(683), 0}, {num(-683), num(682), 0},
		{num(-1365), num(-1), 1365}, {num(-1366), num(-1), 0}, {num(-1364), num(0), 1365}, {num(-1365), num(0), 0},
		{power(32, -1365), power(32, -1), 1365}, {power(32, -1365), power(32, 0), 0}, {power(32, -1361), power(32, 1), 1363}, {power(32, -1364), power(32, 0), 0},
		{power(32, 0), power(32, 1022), 1023}, {power(32, 0), power(32, 1023), 0},
		{power(1024, -120), power(1024, -1), 120}, {power(1024, -121), power(1024, -1), 0},
		{negated(power(1024, -1)), negated(power(1024, -120)), 120}, {negated(power(1024, -1)), negated(power(1024, -121)), 0},
		{num(1), num(2046), 0}, {num(1), num(2047), 0}, {num(1), num(2048), 0}, {num(1), num(4095), 0}, {num(1), num(4096), 0}, {num(1), num(4097), 0}, {num(1), num(5000), 0},
		{num(1), power(31, 0), 0}, {num(1), power(32, 0), 0}, {num(1), power(32, 2), 0}, {num(1), power(40, 0), 0}, {num(1), power(63, -1), 0}, {num(1), power(63, 0), 0}, {num(1), power(64, 0), 0}, {num(1), power(64, 3), 0},
		{num(0), power(63, -1), 0}, {negated(power(63, 0)), power(63, -1), 0}, {negated(power(1024, -1)), power(1024, -1), 0},
	} {
		if c.count == 0 {
			fails(t, tooGreat, "seq", c.a, c.b)
			continue
		}
		holds(t, "seq", c.a, c.b)
		v := value(t, "seq", c.a, c.b)
		if len(v.Items) != c.count || !term.Same(v.Items[0], c.a) || !term.Same(v.Items[c.count-1], c.b) {
			t.Errorf("seq %s, %s: %d items", cut(term.Text(c.a)), cut(term.Text(c.b)), len(v.Items))
		}
	}
}

// P10.1
func TestLimitOfSetElement(t *testing.T) {
	for _, n := range []int{1, 2, 1000, 2048, 4094, 4095} {
		before := tuple(times(n, atom("a"))...)
		for _, at := range []int{1, (n + 1) / 2, n} {
			room := api.MaxSize - n // 1 of its own, 1 of each of the others
			for size := max(1, room-2); size <= min(room+2, api.MaxSize); size++ {
				if size > room {
					fails(t, tooGreat, "setelement", num(int64(at)), before, deep(size))
					fails(t, tooGreat, "setelement", num(int64(at)), before, tupleOf(size))
					fails(t, badArg, "setelement", num(int64(n+1)), before, deep(size))
					fails(t, badArg, "setelement", num(0), before, deep(size))
					continue
				}
				items := slices.Clone(before.Items)
				items[at-1] = deep(size)
				gives(t, tuple(items...), "setelement", num(int64(at)), before, deep(size))
			}
		}
		gives(t, atom("a"), "element", num(int64(n)), before)
		fails(t, badArg, "element", num(int64(n+1)), before)
		gives(t, num(int64(n)), "tuple_size", before)
	}
	gives(t, tuple(atom("b")), "setelement", num(1), tuple(tupleOf(4095)), atom("b"))
	fails(t, tooGreat, "setelement", num(1), tuple(atom("a")), deep(api.MaxSize))
}

// P10.1
func TestLimitOfTuplesAndLists(t *testing.T) {
	for _, c := range []struct {
		items []api.Term
		fits  bool // as a list
	}{
		{times(2046, atom("a")), true}, {times(2047, atom("a")), true}, {times(2048, atom("a")), false}, {times(4095, atom("a")), false},
		{append(times(2046, atom("a")), num(1)), true}, {append(times(2045, atom("a")), num(1), num(1)), false},
		{times(1365, num(1)), true}, {times(1366, num(1)), false}, {times(2047, num(1)), false},
		{[]api.Term{deep(4094)}, true}, {[]api.Term{deep(4095)}, false}, {[]api.Term{atom("a"), listOf(4091)}, true}, {[]api.Term{atom("a"), listOf(4092)}, true}, {[]api.Term{atom("a"), listOf(4093)}, false},
	} {
		if !c.fits {
			fails(t, tooGreat, "tuple_to_list", tuple(c.items...))
			continue
		}
		gives(t, list(c.items...), "tuple_to_list", tuple(c.items...))
		gives(t, tuple(c.items...), "list_to_tuple", list(c.items...))
	}
}

// P10.1
func TestLimitOfErrors(t *testing.T) {
	for _, class := range []string{"throw", "error", "exit"} {
		for _, make := range []func(size int) api.Term{tupleOf, listOf, deep} {
			// A tuple's own 1, and that of the class.
			fails(t, failure(class, make(4093)), class, make(4093))
			fails(t, failure(class, make(4094)), class, make(4094))
			fails(t, tooGreat, class, make(4095))
			fails(t, tooGreat, class, make(4096))
		}
	}
}

// P10.1: what is made of the greatest lists is no greater than they.
func TestGreatestListsStay(t *testing.T) {
	var rising, falling []api.Term
	for i := range 1365 {
		rising = append(rising, num(int64(i+1)))
		falling = append(falling, num(int64(1365-i)))
	}
	if term.Size(list(rising...)) != api.MaxSize {
		t.Fatal("not the greatest")
	}
	for _, name := range []string{"sort", "usort", "reverse"} {
		gives(t, list(rising...), name, list(falling...))
	}
	gives(t, list(), "--", list(rising...), list(falling...))
	gives(t, list(rising...), "--", list(rising...), list(times(2047, atom("a"))...))
	gives(t, list(num(700)), "--", list(append(slices.Clone(rising), num(700))[1:]...), list(rising...))
	gives(t, list(times(1, atom("a"))...), "--", list(times(2047, atom("a"))...), list(times(2046, atom("a"))...))
	gives(t, list(), "--", list(times(2046, atom("a"))...), list(times(2047, atom("a"))...))
	gives(t, list(atom("a")), "usort", list(times(2047, atom("a"))...))
	gives(t, list(rising[1:]...), "tl", list(rising...))
	gives(t, list(rising...), "nthtail", num(0), list(rising...))
	gives(t, list(rising[1364:]...), "nthtail", num(1364), list(rising...))
	gives(t, list(), "nthtail", num(1365), list(rising...))
	fails(t, badArg, "nthtail", num(1366), list(rising...))
	gives(t, num(1365), "nth", num(1365), list(rising...))
	fails(t, badArg, "nth", num(1366), list(rising...))
	gives(t, num(1365), "last", list(rising...))
	gives(t, num(1365), "length", list(rising...))
	gives(t, num(1365*1366/2), "sum", list(rising...))
	gives(t, atom("true"), "member", num(1365), list(rising...))
	gives(t, atom("false"), "member", num(1366), list(rising...))
	gives(t, atom("false"), "member", deep(api.MaxSize), list(times(2047, atom("a"))...))
	gives(t, atom("true"), "member", deep(4094), list(deep(4094)))
	gives(t, atom("false"), "member", deep(4094), list(tupleOf(4094)))
	gives(t, deep(4095), "element", num(1), deep(4096))
	gives(t, atom("true"), "==", deep(4096), deep(4096))
	gives(t, deep(4096), "max", deep(4096), deep(4095))
}

// P10.1
func TestLimitOfAtoms(t *testing.T) {
	for _, c := range []string{"a", "\x00", "\xff"} {
		for _, n := range []int{0, 1, 39, 40} {
			gives(t, atom(strings.Repeat(c, n)), "list_to_atom", spelled(strings.Repeat(c, n)))
			gives(t, spelled(strings.Repeat(c, n)), "atom_to_list", atom(strings.Repeat(c, n)))
		}
		for _, n := range []int{41, 42, 256, 296, 1365} {
			fails(t, tooGreat, "list_to_atom", spelled(strings.Repeat(c, n)))
		}
		for _, bad := range []api.Term{num(256), num(-1), atom("a"), list(), most} {
			for _, n := range []int{0, 39, 40, 41, 1000} {
				items := spelled(strings.Repeat(c, n)).Items
				fails(t, badArg, "list_to_atom", list(append(slices.Clone(items), bad)...))
				fails(t, badArg, "list_to_atom", list(append([]api.Term{bad}, items...)...))
			}
		}
		fails(t, badArg, "list_to_atom", improper(num('a'), spelled(strings.Repeat(c, 41)).Items...))
	}
	fails(t, tooGreat, "list_to_atom", list(times(2047, num(0))...))
}

// P10.1: texts of the greatest integer, and of one that has a limb too many.
func TestLimitOfIntegerTexts(t *testing.T) {
	greatest, above := toBig(most).String(), toBig(power(1024, 0)).String()
	for sign, want := range map[string]api.Term{"": most, "+": most, "-": negated(most)} {
		for _, noughts := range []string{"", "0", strings.Repeat("0", 400), strings.Repeat("0", 1365-len(sign+greatest))} {
			gives(t, want, "list_to_integer", spelled(sign+noughts+greatest))
			fails(t, tooGreat, "list_to_integer", spelled(sign+noughts+above))
			if len(noughts) <= 400 {
				fails(t, tooGreat, "list_to_integer", spelled(sign+noughts+greatest+"0"))
				fails(t, badArg, "list_to_integer", spelled(sign+noughts+above+"a"))
				fails(t, badArg, "list_to_integer", spelled(sign+noughts+"0-"+above))
				fails(t, badArg, "list_to_integer", improper(num('0'), spelled(sign+noughts+above).Items...))
			}
		}
		gives(t, num(0), "list_to_integer", spelled(sign+strings.Repeat("0", 1300)))
		fails(t, tooGreat, "list_to_integer", spelled(sign+strings.Repeat("9", 1300)))
		fails(t, badArg, "list_to_integer", spelled(sign+strings.Repeat("9", 1300)+" "))
	}
	gives(t, spelled(greatest), "integer_to_list", most)
	gives(t, spelled("-"+greatest), "integer_to_list", negated(most))
}

// P10.1: what comes first is told, a sum that is too great or an item that is none.
func TestLimitOfSums(t *testing.T) {
	for _, c := range []struct{ end, one api.Term }{{most, num(1)}, {negated(most), num(-1)}} {
		back := negated(c.one)
		for _, n := range []int{0, 1, 50} {
			ahead := times(n, num(0))
			with := func(items ...api.Term) api.Term { return list(slices.Concat(ahead, items, ahead)...) }
			gives(t, c.end, "sum", with(c.end))
			gives(t, c.end, "sum", with(c.end, back, c.one))
			gives(t, c.end, "sum", with(back, c.end, c.one))
			fails(t, tooGreat, "sum", with(c.end, c.one))
			fails(t, tooGreat, "sum", with(c.end, c.one, back))
			fails(t, tooGreat, "sum", with(c.one, c.end, back))
			fails(t, tooGreat, "sum", with(c.end, c.end, negated(c.end)))
			for _, other := range []api.Term{atom("a"), list(), list(num(1)), tuple(num(1)), pid(1), ref(1), fun(1)} {
				fails(t, tooGreat, "sum", with(c.end, c.one, other))
				fails(t, badArith, "sum", with(c.end, other, c.one))
				fails(t, badArith, "sum", with(other, c.end, c.one))
				if other.Kind != api.List {
					fails(t, badArg, "sum", improper(other, slices.Concat(ahead, []api.Term{c.end, c.one})...))
				}
			}
		}
	}
}
