package sound_test

import (
	"runtime/debug"
	"slices"
	"strings"
	"testing"

	"pigeonhole/api"
	"pigeonhole/sound"
)

// looped is a node of a Kind in which, by so many steps, it stands again.
func looped(kind api.CoreKind, size int) api.Core {
	rows := make([][]api.Core, size)
	for i := range rows {
		rows[i] = make([]api.Core, 3)
	}
	for i := range rows {
		rows[i][0] = bind(3)
		rows[i][1] = x(4)
		rows[i][2] = numbered(kind, 5, rows[(i+1)%size]...)
	}
	return rows[0][2]
}

// doubled is a node of two nodes of two nodes .. of c: small in memory, without number as a tree.
func doubled(c api.Core, kind api.CoreKind, times int) api.Core {
	for range times {
		c = of(kind, c, c)
	}
	return c
}

// deep is so many nodes, each the Kid at a place of the one around it, with c at the end.
func deep(c api.Core, times int, around func(c api.Core) api.Core) api.Core {
	for range times {
		c = around(c)
	}
	return c
}

// R1: what has no end is not sound, and has its answers.
func TestLoops(t *testing.T) {
	for kind := range 34 {
		for _, size := range []int{1, 2, 7, 1000} {
			c := looped(api.CoreKind(kind), size)
			for i, body := range []api.Core{c, tuple(c), tuple(a, x(0), c), let(2, a, c), choose(a, clause(c, a)), choose(a, guarded(wildcard, a, c)), choose(a, clause(wildcard, c)), choose(a, c)} {
				if got := checkBody(body); got != api.ErrShape {
					t.Fatalf("%d, %d, %d: %v", kind, size, i, got)
				}
				sound.Show(body)
				sound.Free(body)
				if got := sound.Bound(body); !slices.Contains(got, 3) {
					t.Fatalf("%d, %d, %d: %v", kind, size, i, got)
				}
			}
		}
	}
	row := make([]api.Core, 1) // right at each step
	row[0] = tuple(row...)
	row[0].Kids = row
	if got := checkBody(row[0]); got != api.ErrShape {
		t.Error(got)
	}
	wide := make([]api.Core, 1000)
	for i := range wide {
		wide[i] = api.Core{Kind: api.CoreTuple, Kids: wide[:1+i]}
	}
	if got := checkBody(wide[999]); got != api.ErrShape || len(sound.Bound(wide[999])) != 0 {
		t.Error(got)
	}
}

// R1: Kids that nodes have in common count as often as they stand there.
func TestKidsInCommon(t *testing.T) {
	for _, times := range []int{1, 2, 10, 14} {
		c := doubled(x(0), api.CoreTuple, times)
		if got := checkBody(c); got != api.OK {
			t.Errorf("%d times: %v", times, got)
		}
		if got := checkBody(doubled(x(2), api.CoreTuple, times)); got != api.ErrShape {
			t.Errorf("%d times: %v", times, got)
		}
		tells(t, c)
		p := doubled(bind(2), api.PatTuple, times)
		if got := checkBody(choose(a, clause(p, a))); got != api.ErrShape {
			t.Errorf("bound 2^%d times: %v", times, got)
		}
		if got := checkBody(choose(a, clause(doubled(same(0), api.PatBoth, times), a))); got != api.OK {
			t.Errorf("%d times: %v", times, got)
		}
		tells(t, p)
		tells(t, clause(p, doubled(x(2), api.CoreCons, times)))
	}
	one := []api.Core{clause(bind(2), x(2))}
	one = append(one, one[0], one[0])
	if got := checkBody(tuple(choose(a, one...), choose(a, one[1:]...), of(api.CoreReceive, one[:2]...), choose(a, one[1:2]...))); got != api.OK {
		t.Errorf("pieces of one row: %v", got)
	}
	b := tuple(x(2))
	if got := checkBody(tuple(let(2, a, b), b)); got != api.ErrShape || !slices.Equal(sound.Free(tuple(let(2, a, b), b)), []int{2}) {
		t.Errorf("bound on one way of two: %v", got)
	}
	for _, times := range []int{32, 63, 64, 65, 1000} { // more than can be gone through
		c := doubled(pats(bind(2)), api.CoreTuple, times)
		checkBody(c)
		sound.Free(c)
		sound.Show(c)
		if got := sound.Bound(c); !slices.Equal(got, []int{2}) {
			t.Errorf("%d times: %v", times, got)
		}
	}
}

// R1: nodes that are deeper than the stack has room for.
func TestVeryDeep(t *testing.T) {
	defer debug.SetMaxStack(debug.SetMaxStack(1 << 20))
	const times = 20000
	for name, around := range map[string]func(c api.Core) api.Core{
		"tuple":         func(c api.Core) api.Core { return tuple(c) },
		"tuple, 2nd":    func(c api.Core) api.Core { return tuple(a, c, a) },
		"cons":          func(c api.Core) api.Core { return of(api.CoreCons, c, a) },
		"let":           func(c api.Core) api.Core { return let(5, c, x(5)) },
		"apply":         func(c api.Core) api.Core { return of(api.CoreApply, a, c) },
		"bif":           func(c api.Core) api.Core { return bif("print", c) },
		"call":          func(c api.Core) api.Core { return call(0, c, a) },
		"case":          func(c api.Core) api.Core { return choose(c, clause(bind(5), x(5))) },
		"case's clause": func(c api.Core) api.Core { return choose(a, otherwise, clause(wildcard, c), otherwise) },
		"guard":         func(c api.Core) api.Core { return choose(a, guarded(wildcard, c, tuple(a))) },
		"receive":       func(c api.Core) api.Core { return of(api.CoreReceive, clause(same(0), c), otherwise) },
		"after":         func(c api.Core) api.Core { return numbered(api.CoreReceive, 1, a, c) },
		"try":           func(c api.Core) api.Core { return of(api.CoreTry, c, otherwise) },
		"fail":          func(c api.Core) api.Core { return said(api.CoreFail, "a", c) },
	} {
		if got := checkBody(deep(x(0), times, around)); got != api.OK {
			t.Errorf("%s: %v", name, got)
		}
		c := deep(x(4), times, around)
		if got := checkBody(c); got != api.ErrShape {
			t.Errorf("%s: %v", name, got)
		}
		if got := sound.Free(c); !slices.Contains(got, 4) {
			t.Errorf("%s: %v", name, got)
		}
		if got := sound.Show(c); strings.Count(got, "(") < times || strings.Count(got, "(") != strings.Count(got, ")") {
			t.Errorf("%s: %d bytes", name, len(got))
		}
	}
	for name, around := range map[string]func(c api.Core) api.Core{
		"tuple": func(c api.Core) api.Core { return pats(c) }, "cons": func(c api.Core) api.Core { return cons(c, wildcard) }, "cons, 2nd": func(c api.Core) api.Core { return cons(wildcard, c) }, "both": func(c api.Core) api.Core { return both(c, same(5)) }, "both, 2nd": func(c api.Core) api.Core { return both(same(0), c) },
	} {
		p := deep(bind(5), times, around)
		if got := checkBody(choose(a, clause(p, x(5)))); got != api.OK {
			t.Errorf("%s: %v", name, got)
		}
		if got := checkBody(choose(a, clause(pats(p, bind(5)), x(5)))); got != api.ErrShape {
			t.Errorf("%s: %v", name, got)
		}
		if got := sound.Bound(p); !slices.Equal(got, []int{5}) {
			t.Errorf("%s: %v", name, got)
		}
		if got := sound.Free(clause(p, x(5))); len(got) != 0 && !slices.Equal(got, []int{0}) {
			t.Errorf("%s: %v", name, got)
		}
	}
	test := deep(x(0), times, func(c api.Core) api.Core { return some(a, all(c, bif("hd", a))) })
	if got := checkBody(choose(a, guarded(wildcard, a, test))); got != api.OK {
		t.Error(got)
	}
	if got := sound.Show(deep(a, 3, func(c api.Core) api.Core { return tuple(c) })); got != "tuple (tuple (tuple (const a)))" {
		t.Error(got)
	}
}

// R1: nodes of many Kids.
func TestVeryWide(t *testing.T) {
	const count = 100000
	if got := checkBody(tuple(repeated(x(0), count)...)); got != api.OK {
		t.Error(got)
	}
	if got := checkBody(choose(a, repeated(clause(bind(5), x(5)), count)...)); got != api.OK {
		t.Error(got)
	}
	if got := checkBody(choose(a, clause(pats(append(repeated(wildcard, count), bind(5), same(5))...), x(5)))); got != api.OK {
		t.Error(got)
	}
	if got := checkBody(of(api.CoreApply, append(repeated(a, count), x(3))...)); got != api.ErrShape {
		t.Error(got)
	}
	if got := checkBody(call(4, repeated(a, count)...)); got != api.ErrShape {
		t.Error(got)
	}
	var binds, uses []api.Core
	var nums []int
	for i := range count {
		binds, uses, nums = append(binds, bind(count-i)), append(uses, x(count-i)), append(nums, i+1)
	}
	row := pats(binds...)
	if got := sound.Bound(row); !slices.Equal(got, nums) {
		t.Error(len(got))
	}
	if got := sound.Free(tuple(uses...)); !slices.Equal(got, nums) {
		t.Error(len(got))
	}
	if got := sound.Free(clause(row, tuple(uses...))); len(got) != 0 {
		t.Error(len(got))
	}
	if got := checkBody(choose(a, clause(row, a))); got != api.ErrShape {
		t.Error(got)
	}
	if got := sound.Show(tuple(repeated(x(-1), count)...)); got != "tuple"+strings.Repeat(" (var -1)", count) {
		t.Error(len(got))
	}
	if got := sound.Show(of(0, repeated(of(0), count)...)); got != "?"+strings.Repeat(" (?)", count) {
		t.Error(len(got))
	}
}
