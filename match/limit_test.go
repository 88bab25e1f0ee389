package match_test

import (
	"runtime/debug"
	"testing"

	"pigeonhole/api"
	"pigeonhole/match"
)

// deep is so many nodes, each in the one around it, with c at the end.
func deep(c api.Core, times int, around func(c api.Core) api.Core) api.Core {
	for range times {
		c = around(c)
	}
	return c
}

// doubled is a node of two nodes of two nodes .. of c: small in memory, without number as a tree.
func doubled(c api.Core, kind api.CoreKind, times int) api.Core {
	return deep(c, times, func(c api.Core) api.Core { return of(kind, c, c) })
}

// nested is t in so many tuples, one in another.
func nested(t api.Term, times int) api.Term {
	for range times {
		t = tuple(t)
	}
	return t
}

// veryDeep is deeper than a stack of smallStack bytes has room for.
const (
	veryDeep   = 30000
	smallStack = 1 << 22
)

// P11.2, R1
func TestDeepPatterns(t *testing.T) {
	defer debug.SetMaxStack(debug.SetMaxStack(smallStack))
	v := vars(num(7), api.Term{})
	for name, around := range map[string]func(c api.Core) api.Core{
		"first":         func(c api.Core) api.Core { return both(c, same(0)) },
		"second":        func(c api.Core) api.Core { return both(same(0), c) },
		"first, bound":  func(c api.Core) api.Core { return both(c, bind(0)) },
		"second, bound": func(c api.Core) api.Core { return both(bind(0), c) },
		"in turn":       func(c api.Core) api.Core { return both(wild(), both(c, same(0))) },
	} {
		for _, times := range []int{1, 2, 50, veryDeep} {
			if got := told(match.Match(deep(bind(1), times, around), num(7), v)); got != "7 7" {
				t.Errorf("%s, %d: %s", name, times, got)
			}
			for _, wrong := range []api.Core{is(num(8)), same(1), bind(2), {}, pats()} {
				if got := told(match.Match(deep(wrong, times, around), num(7), v)); got != "no" {
					t.Errorf("%s, %d: %s", name, times, got)
				}
			}
		}
	}
	for _, times := range []int{1, 50, 1000, api.MaxSize - 1} {
		x := nested(atom("b"), times)
		inTuples := func(c api.Core) api.Core { return pats(c) }
		fits(t, deep(bind(1), times, inTuples), x, v, num(7), atom("b"))
		fits(t, deep(bind(1), times-1, inTuples), x, v, num(7), tuple(atom("b")))
		fits(t, deep(bind(1), 0, inTuples), x, v, num(7), x)
		refuses(t, deep(bind(1), times+1, inTuples), x, v)
		refuses(t, deep(bind(1), veryDeep, inTuples), x, v)
		refuses(t, deep(is(atom("c")), times, inTuples), x, v)
	}
	for _, length := range []int{1, 2, 50, (api.MaxSize - 2) / 2} {
		inLists := func(c api.Core) api.Core { return cons(is(atom("a")), c) }
		proper, with := list(times(length, atom("a"))...), improper(atom("b"), times(length, atom("a"))...)
		fits(t, deep(bind(1), length, inLists), proper, v, num(7), list())
		fits(t, deep(bind(1), length, inLists), with, v, num(7), atom("b"))
		fits(t, deep(bind(1), length-1, inLists), with, v, num(7), improper(atom("b"), atom("a")))
		refuses(t, deep(bind(1), length+1, inLists), proper, v)
		refuses(t, deep(bind(1), veryDeep, inLists), proper, v)
		refuses(t, deep(bind(1), veryDeep, inLists), with, v)
		refuses(t, deep(is(atom("c")), length, inLists), with, v)
	}
	inHeads := func(c api.Core) api.Core { return cons(c, is(list())) }
	x := atom("b")
	for range 1000 {
		x = list(x)
	}
	fits(t, deep(bind(1), 1000, inHeads), x, v, num(7), atom("b"))
	refuses(t, deep(bind(1), 1001, inHeads), x, v)
}

// P11.3, R1
func TestDeepGuards(t *testing.T) {
	defer debug.SetMaxStack(debug.SetMaxStack(smallStack))
	for name, around := range map[string]func(c api.Core) api.Core{
		"all":         func(c api.Core) api.Core { return all(c) },
		"all, first":  func(c api.Core) api.Core { return all(c, yes) },
		"all, last":   func(c api.Core) api.Core { return all(yes, yes, c) },
		"any":         func(c api.Core) api.Core { return some(c) },
		"any, first":  func(c api.Core) api.Core { return some(c, no) },
		"any, last":   func(c api.Core) api.Core { return some(no, no, c) },
		"in turn":     func(c api.Core) api.Core { return all(some(no, c), yes) },
		"not":         func(c api.Core) api.Core { return bif("not", bif("not", c)) },
		"and":         func(c api.Core) api.Core { return bif("and", c, yes) },
		"or":          func(c api.Core) api.Core { return bif("or", x(0), c) },
		"head":        func(c api.Core) api.Core { return bif("hd", cell(c, a)) },
		"rest":        func(c api.Core) api.Core { return bif("tl", cell(a, c)) },
		"the item of": func(c api.Core) api.Core { return bif("element", the(num(2)), row(a, c)) },
	} {
		for _, times := range []int{1, 2, 50, veryDeep} {
			for _, c := range []struct {
				want bool
				kids []api.Core
			}{{true, []api.Core{yes}}, {false, []api.Core{no}}, {false, []api.Core{bad}}, {true, []api.Core{bad, yes}}} {
				c.kids[0] = deep(c.kids[0], times, around)
				if got := match.Guard(some(c.kids...), vars(atom("false"))); got != c.want {
					t.Errorf("%s, %d: %v", name, times, got)
				}
			}
		}
	}
	inTuples := func(c api.Core) api.Core { return row(c) }
	for _, times := range []int{1, 50, 1000, api.MaxSize - 1} {
		guards(t, true, some(bif("==", deep(a, times, inTuples), the(nested(atom("a"), times)))), match.New(0))
		guards(t, false, some(bif("==", deep(a, times, inTuples), the(nested(atom("b"), times)))), match.New(0))
	}
	for _, times := range []int{api.MaxSize, veryDeep} {
		e := deep(a, times, inTuples)
		guards(t, false, some(bif("is_tuple", e), bif("not", bif("is_tuple", e))), match.New(0))
	}
	inLists := func(c api.Core) api.Core { return cell(a, c) }
	guards(t, true, some(bif("==", deep(the(list()), 2047, inLists), the(list(times(2047, atom("a"))...)))), match.New(0))
	for _, times := range []int{2048, veryDeep} {
		e := deep(the(list()), times, inLists)
		guards(t, false, some(bif("is_list", e), bif("not", bif("is_list", e))), match.New(0))
	}
	sum := deep(the(num(0)), veryDeep, func(c api.Core) api.Core { return bif("+", c, the(num(1))) })
	guards(t, true, some(bif("==", sum, the(num(veryDeep)))), match.New(0))
}

// P11.2 to P11.4, R1: rows of many.
func TestWide(t *testing.T) {
	wide := api.MaxSize - 1
	great := greatTuple(api.MaxSize)
	fits(t, pats(times(wide, is(atom("a")))...), great, match.New(0))
	fits(t, pats(append(times(wide-1, bind(0)), same(0))...), great, match.New(1), atom("a"))
	refuses(t, pats(append(times(wide-1, bind(0)), is(atom("b")))...), great, match.New(1))
	refuses(t, pats(times(wide-1, wild())...), great, match.New(0))
	refuses(t, pats(times(wide+1, wild())...), great, match.New(0))
	refuses(t, pats(times(1000000, wild())...), great, match.New(0))
	refuses(t, cons(times(1000000, wild())...), list(num(1)), match.New(0))
	guards(t, true, some(append(times(100000, no), yes)...), match.New(0))
	guards(t, true, some(all(times(100000, yes)...)), match.New(0))
	guards(t, false, some(all(append(times(100000, yes), no)...)), match.New(0))
	guards(t, true, some(some(append(times(100000, no), yes)...)), match.New(0))
	guards(t, false, some(some(append(times(100000, no), bad, yes)...)), match.New(0))
	guards(t, true, some(bif("==", row(times(wide, a)...), the(great))), match.New(0))
}

// looped is a node of a Kind in which, by so many steps, it stands again, behind one or ahead of it.
func looped(kind api.CoreKind, size int, beside api.Core, behind bool) api.Core {
	rows := make([][]api.Core, size)
	for i := range rows {
		rows[i] = []api.Core{beside, beside}
	}
	place := 0
	if behind {
		place = 1
	}
	for i := range rows {
		rows[i][place] = api.Core{Kind: kind, Text: "and", Kids: rows[(i+1)%size]}
	}
	return rows[0][place]
}

// P11.2, R1: what leads back into itself matches nothing, unless it is not come to.
func TestPatternsWithoutEnd(t *testing.T) {
	v := vars(num(7), api.Term{})
	for _, size := range []int{1, 2, 7, 1000} {
		for _, beside := range []api.Core{wild(), bind(1), same(0), bind(0), is(num(7))} {
			for _, behind := range []bool{false, true} {
				for kind := range 35 {
					c := looped(api.CoreKind(kind), size, beside, behind)
					for _, x := range []api.Term{num(7), tuple(num(7), tuple(num(7), num(7))), list(num(7), num(7)), nested(num(7), 100), list(list(list(num(7)), num(7)), num(7))} {
						switch api.CoreKind(kind) {
						case api.PatAny:
							fits(t, c, x, v, v.Values...)
						case api.PatBind:
							fits(t, c, x, v, x, api.Term{})
						case api.PatSame:
							continue
						default:
							refuses(t, c, x, v)
							refuses(t, both(wild(), c), x, v)
							refuses(t, pats(wild(), c), tuple(x, x), v)
						}
					}
				}
			}
		}
	}
	row := make([]api.Core, 1)
	row[0] = api.Core{Kind: api.PatTuple, Kids: row}
	refuses(t, row[0], nested(tuple(), 1000), v)
	// Of lists of any length: it comes to their end.
	row = []api.Core{wild(), {}}
	row[1] = api.Core{Kind: api.PatCons, Kids: row}
	refuses(t, row[1], greatList(api.MaxSize-1), v)
	// What does not match ahead of it, or is not come to.
	refuses(t, both(is(num(8)), looped(api.PatBoth, 1, wild(), false)), num(7), v)
	refuses(t, pats(looped(api.PatBoth, 1, wild(), false)), num(7), v)
}

// P11.3, R1: what leads back into itself fails, unless it is not asked.
func TestGuardsWithoutEnd(t *testing.T) {
	for _, size := range []int{1, 2, 7, 1000} {
		for kind := range 35 {
			for _, behind := range []bool{false, true} {
				for _, beside := range []api.Core{yes, no, a, bad} {
					c := looped(api.CoreKind(kind), size, beside, behind)
					want := behind && (kind == int(api.GuardAll) && beside.Term.Text == "false" || kind == int(api.GuardAny) && beside.Term.Text == "true")
					switch {
					case kind == int(api.CoreConst) || kind == int(api.CoreVar):
					case want: // it ends ahead of itself
						values(t, beside.Term, c, match.New(0))
					default:
						fails(t, c, match.New(0))
						fails(t, row(a, c), match.New(0))
					}
				}
			}
		}
	}
	// The guard in itself.
	row := []api.Core{{}, yes}
	row[0] = api.Core{Kind: api.GuardAny, Kids: row}
	guards(t, true, row[0], match.New(0)) // its first Kid fails, its second one is true
	row = []api.Core{{}, {}, no}
	row[0], row[1] = api.Core{Kind: api.GuardAny, Kids: row}, api.Core{Kind: api.GuardAll, Kids: row}
	guards(t, false, row[0], match.New(0))
	guards(t, false, some(row...), match.New(0))
	guards(t, true, some(append(row, yes)...), match.New(0))
	for range 3 {
		row[2] = yes
		guards(t, true, some(row...), match.New(0))
		row[2] = no
		guards(t, false, some(row...), match.New(0))
	}
}

// P11.2, R1: patterns that are small in memory, and without number as a tree.
func TestPatternsInCommon(t *testing.T) {
	v := vars(num(7), api.Term{}, api.Term{})
	none := api.Term{}
	two := tuple(num(8), num(9))
	for _, times := range []int{1, 2, 3, 10, 31, 32, 63, 64, 200, 1000} {
		fits(t, doubled(wild(), api.PatBoth, times), two, v, v.Values...)
		fits(t, doubled(bind(1), api.PatBoth, times), two, v, num(7), two, none)
		fits(t, doubled(same(0), api.PatBoth, times), num(7), v, v.Values...)
		refuses(t, doubled(same(0), api.PatBoth, times), two, v)
		refuses(t, doubled(same(1), api.PatBoth, times), two, v)
		refuses(t, doubled(is(num(7)), api.PatBoth, times), two, v)
		refuses(t, doubled(doubled(bind(3), api.PatBoth, 3), api.PatBoth, times), two, v)
		fits(t, doubled(both(bind(0), same(0)), api.PatBoth, times), two, v, two, none, none)
		fits(t, doubled(pats(bind(1), bind(2)), api.PatBoth, times), two, v, num(7), num(8), num(9))
		fits(t, doubled(pats(bind(1), bind(1)), api.PatBoth, times), two, v, num(7), num(9), none)
		fits(t, doubled(pats(both(bind(1), same(1)), bind(1)), api.PatBoth, times), two, v, num(7), num(9), none)
		// It matches once, but not twice.
		once := pats(same(0), bind(0))
		fits(t, once, tuple(num(7), num(9)), v, num(9), none, none)
		refuses(t, doubled(once, api.PatBoth, times), tuple(num(7), num(9)), v)
		fits(t, doubled(once, api.PatBoth, times), tuple(num(7), num(7)), v, v.Values...)
		// What stands beside it does it again, or undoes it.
		many := doubled(bind(1), api.PatBoth, times)
		fits(t, pats(many, same(1)), tuple(num(8), num(8)), v, num(7), num(8), none)
		refuses(t, pats(many, same(1)), two, v)
		fits(t, pats(many, many), two, v, num(7), num(9), none)
		fits(t, both(pats(many, bind(2)), pats(bind(2), many)), two, v, num(7), num(9), num(8))
		asks := doubled(pats(same(1), wild()), api.PatBoth, times)
		gives := doubled(pats(wild(), bind(1)), api.PatBoth, times)
		first := doubled(pats(bind(1), wild()), api.PatBoth, times)
		fits(t, both(first, both(asks, both(gives, both(first, asks)))), two, v, num(7), num(8), none)
		refuses(t, both(first, both(asks, both(gives, asks))), two, v)
		refuses(t, both(gives, asks), two, v)
		refuses(t, both(asks, first), two, v)
		turns := doubled(both(first, both(asks, gives)), api.PatBoth, times)
		fits(t, turns, two, v, num(7), num(9), none)
		fits(t, both(turns, first), two, v, num(7), num(8), none)
		refuses(t, both(turns, asks), two, v)
		// One that asks behind what it gives, again behind another one.
		again := doubled(both(both(first, asks), wild()), api.PatBoth, times)
		fits(t, again, two, v, num(7), num(8), none)
		fits(t, both(again, both(gives, again)), two, v, num(7), num(8), none)
		fits(t, both(both(again, gives), both(again, gives)), two, v, num(7), num(9), none)
		// One that asks ahead of what it gives, and of what it was given there.
		ahead := doubled(both(both(asks, first), wild()), api.PatBoth, times)
		refuses(t, ahead, two, v)
		fits(t, both(first, ahead), two, v, num(7), num(8), none)
		fits(t, both(both(first, ahead), ahead), two, v, num(7), num(8), none)
		refuses(t, both(both(first, ahead), both(gives, ahead)), two, v)
		refuses(t, both(gives, ahead), two, v)
	}
	// In each tuple, or behind each item, twice as often as around it.
	for _, times := range []int{1, 2, 10, 100, 2000} {
		inTuples := deep(bind(1), times, func(c api.Core) api.Core { return both(pats(c), pats(c)) })
		fits(t, inTuples, nested(num(9), times), v, num(7), num(9), none)
		refuses(t, inTuples, nested(num(9), times-1), v)
		inLists := deep(bind(1), times, func(c api.Core) api.Core { return both(cons(bind(2), c), cons(same(2), c)) })
		fits(t, inLists, greatList(2*times+1), v, num(7), list(), atom("a"))
		refuses(t, inLists, greatList(2*times-1), v)
	}
}

// P11.2, R1: as of a clock whose hands each go round in every step of the next greater one: all that they show comes up.
func TestVariablesThatTakeTurns(t *testing.T) {
	const hands = 60
	v := match.New(hands + 1)
	at := both(bind(hands), same(hands)) // the least step
	for n := range hands {
		at = both(both(pats(bind(n), wild()), at), both(pats(wild(), bind(n)), at))
	}
	got, ok := match.Match(at, tuple(num(1), num(2)), v)
	if !ok {
		t.Fatal("no")
	}
	for n := range hands {
		if !got.Has[n] || entire(got.Values[n]) != "2" {
			t.Errorf("%d: %s", n, shown(got))
		}
	}
	for _, short := range []int{1, 2, 5, 9} {
		p, v := both(bind(short), same(0)), someOnes(short+1)
		for n := range short {
			p = both(both(pats(bind(n), wild()), p), both(pats(wild(), bind(n)), p))
			matchHolds(t, p, tuple(num(1), num(2)), v)
			matchHolds(t, both(pats(wild(), bind(0)), p), tuple(num(1), num(2)), v)
			matchHolds(t, p, tuple(num(1), num(1)), v)
		}
	}
}

// someOnes are so many variables that have 1.
func someOnes(count int) match.Vars { return vars(times(count, num(1))...) }

// P11.3, R1: guards that are small in memory, and without number as a tree.
func TestGuardsInCommon(t *testing.T) {
	for _, times := range []int{1, 2, 3, 10, 31, 32, 63, 64, 200, 1000} {
		values(t, atom("true"), doubled(yes, api.GuardAll, times), match.New(0))
		values(t, atom("false"), doubled(no, api.GuardAny, times), match.New(0))
		values(t, atom("false"), doubled(no, api.GuardAll, times), match.New(0))
		values(t, atom("true"), deep(yes, times, func(c api.Core) api.Core { return bif("and", c, c) }), match.New(0))
		values(t, atom("true"), deep(x(0), times, func(c api.Core) api.Core { return all(c, some(no, c)) }), vars(atom("true")))
		fails(t, doubled(bad, api.GuardAll, times), match.New(0))
		fails(t, doubled(a, api.GuardAny, times), match.New(0))
		if times < 1000 {
			values(t, power(times), deep(the(num(1)), times, func(c api.Core) api.Core { return bif("+", c, c) }), match.New(0))
		} else {
			fails(t, deep(the(num(1)), 1024, func(c api.Core) api.Core { return bif("+", c, c) }), match.New(0))
		}
		if c := doubled(row(), api.CoreTuple, times); times < 12 {
			values(t, twins(times), c, match.New(0))
		} else {
			fails(t, c, match.New(0))
		}
		if times >= 12 {
			fails(t, doubled(the(list()), api.CoreCons, times), match.New(0))
		}
	}
	values(t, twins(11), doubled(row(), api.CoreTuple, 11), match.New(0))
	fails(t, doubled(row(), api.CoreTuple, 12), match.New(0))
}

// power is 2^n.
func power(n int) api.Term {
	limbs := make([]uint32, n/32+1)
	limbs[n/32] = 1 << (n % 32)
	return api.Term{Kind: api.Int, Limbs: limbs}
}

// twins is a tuple of two tuples of two tuples .., so deep, of 2^(n + 1) - 1 in all.
func twins(n int) api.Term {
	t := tuple()
	for range n {
		t = tuple(t, t)
	}
	return t
}
