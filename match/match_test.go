package match_test

import (
	"fmt"
	"math"
	"slices"
	"strings"
	"testing"

	"pigeonhole/api"
	"pigeonhole/core"
	"pigeonhole/match"
	"pigeonhole/parse"
	"pigeonhole/sound"
)

// Written by hand: a head of a function, maybe with a guard; what it is called with; the values that its variables get as they are come to, or no.
const byHand = `
_ : a :
X : a : a
X : {1, [b | c]} : {1,[b|c]}
X : G : #Fun<7>{a}
5 : 5 :
5 : 6 : no
-5 : -5 :
-5 : 5 : no
a : a :
a : b : no
a : "a" : no
"ab" : [97, 98] :
"ab" : [97, 98, 99] : no
"ab" : [97] : no
"" : [] :
"" : {} : no
[] : [] :
[] : '' : no
{} : {} :
{} : {a} : no
{} : [] : no
{X} : {a} : a
{X} : {a, b} : no
{X} : [a] : no
{X} : F : no
{X} : G : no
{X, Y} : {a, b} : a b
{X, Y} : {a} : no
{X, Y} : {a, b, c} : no
{X, X} : {a, a} : a
{X, X} : {a, b} : no
{X, X} : {[1, 2], [1, 2]} : [1,2]
{X, X} : {[1, 2], [1 | 2]} : no
{X, X} : {G, G} : #Fun<7>{a}
{X, X} : {G, H} : no
{X, X} : {G, F} : no
{X, X} : {P, R} : no
{X, X} : {P, Q} : no
{X, X} : {R, R} : #Ref<7>
{X, X} : {R, S} : no
{X, X} : {1, '1'} : no
{X, X} : {Most, Most} : 179769313486231590772930519078902473361797697894230657273430081157732675805500963132708477322407536021120113879871393357658789768814416622492847430639474124377767893424865485276302219601246094119453082952085005768838150682342462881473913110540827237163350510684586298239947245938479716304835356329624224137215
{_, _} : {a, b} :
{_, X, _} : {a, b, c} : b
{X, {Y, {X, Y}}} : {1, {2, {1, 2}}} : 1 2
{X, {Y, {X, Y}}} : {1, {2, {2, 1}}} : no
{{X, Y}, {Y, X}} : {{1, 2}, {2, 1}} : 1 2
{{X, Y}, {Y, X}} : {{1, 2}, {1, 2}} : no
{a, X} : {a, {a, b}} : {a,b}
{a, X} : {b, c} : no
[X | Y] : [1] : 1 []
[X | Y] : [1, 2] : 1 [2]
[X | Y] : [1, 2, 3] : 1 [2,3]
[X | Y] : [1 | 2] : 1 2
[X | Y] : [1, 2 | 3] : 1 [2|3]
[X | Y] : [1 | {}] : 1 {}
[X | Y] : [[] | a] : [] a
[X | Y] : [[]] : [] []
[X | Y] : [] : no
[X | Y] : {1, 2} : no
[X | Y] : a : no
[X | Y] : F : no
[X | Y] : G : no
[X] : [1] : 1
[X] : [] : no
[X] : [1, 2] : no
[X] : [1 | 2] : no
[X, Y] : [1, 2] : 1 2
[X, Y] : [1] : no
[X, Y] : [1, 2, 3] : no
[X, Y] : [1, 2 | 3] : no
[X, Y | Z] : [1, 2] : 1 2 []
[X, Y | Z] : [1, 2, 3, 4] : 1 2 [3,4]
[X, Y | Z] : [1, 2 | 3] : 1 2 3
[X, Y | Z] : [1, 2, 3 | 4] : 1 2 [3|4]
[X, Y | Z] : [1 | 2] : no
[X, Y | Z] : [1] : no
[X, X | X] : [a, a | a] : a
[X, X | X] : [a, a, a] : no
[X | X] : [[a], a] : [a]
[X | X] : [[a | b], a | b] : [a|b]
[X | X] : [[]] : []
[X | X] : [a] : no
[[X | Y] | Z] : [[1, 2], 3] : 1 [2] [3]
[[X | Y] | Z] : [1, 2] : no
[1 | {X, Y}] : [1 | {2, 3}] : 2 3
[1, 2 | X] : [1, 2, 3] : [3]
[1, 2 | X] : [1, 3, 3] : no
X = 5 : 5 : 5
X = 5 : 6 : no
5 = X : 5 : 5
X = Y : a : a a
X = {Y, Z} : {1, 2} : {1,2} 1 2
{X, _} = {_, Y} : {1, 2} : 1 2
{X, _} = {_, X} : {1, 2} : no
{X, _} = {_, X} : {1, 1} : 1
[X | Y] = [_ | Y] : [1, 2] : 1 [2]
[X | Y] = [_, Z | _] : [1, 2, 3] : 1 [2,3] 2
{[X], Y = [Z]} : {[1], [2]} : 1 [2] 2
X when X > 1 : 2 : 2
X when X > 1 : 1 : no
X when X > 1, X < 5 ; X == a : 3 : 3
X when X > 1, X < 5 ; X == a : 5 : no
X when X > 1, X < 5 ; X == a : a : a
X when X > 1, X < 5 ; X == a : b : no
X when hd(X) == 1 ; X == a : a : a
X when hd(X) == 1 orelse X == a : a : no
X when X == a orelse hd(X) == 1 : a : a
X when is_list(X) andalso hd(X) == 1 : a : no
X when is_list(X) andalso hd(X) == 1 : [1] : [1]
X when not (is_list(X) andalso hd(X) == 1) : a : a
X when X : true : true
X when X : false : no
X when X : a : no
X when X, X : true : true
{X, Y} when X, Y : {true, a} : no
{X, Y} when X, Y ; true : {true, a} : true a
{X, Y} when X andalso Y : {true, true} : true true
{X, Y} when X andalso Y : {true, false} : no
{X, Y} when X andalso Y : {true, 1} : no
{X, Y} when (X andalso Y) == 1 : {true, 1} : true 1
{X, Y} when (X orelse Y) == 1 : {false, 1} : false 1
{X, Y} when (X orelse Y) == 1 : {1, 1} : no
{X, Y} when X + Y == 3, [X, Y] == [1, 2] : {1, 2} : 1 2
{X, Y} when {Y, [X | Y]} == {2, [1 | 2]} : {1, 2} : 1 2
{X, Y} when X > Y ; element(X, {a, b}) == Y : {2, b} : 2 b
{X, Y} when X > Y ; element(X, {a, b}) == Y : {3, b} : no
{X, Y} when element(X, Y) : {1, {true}} : 1 {true}
{X, Y} when element(X, Y) : {2, {true}} : no
X when length(X) == 2 : [1, 2] : [1,2]
X when length(X) == 2 : [1 | 2] : no
X when "a" == X : [97] : [97]
`

// head is the pattern and the guard of a function's clause, and the function.
func head(t *testing.T, s string) (p, g api.Core, f api.Func) {
	t.Helper()
	text, guard, ok := strings.Cut(s, " when ")
	if ok {
		guard = " when " + guard
	}
	m, fault := parse.Module("f(" + text + ")" + guard + " -> ok.")
	if fault.Err != api.OK {
		t.Fatal(s, fault)
	}
	made, err := core.Make(m)
	if err != api.OK {
		t.Fatal(s, err)
	}
	f = made.Funcs[0]
	clause := f.Body.Kids[1]
	return clause.Kids[0], clause.Kids[1], f
}

// P11.2 to P11.4: what stands in sources.
func TestHeadsByHand(t *testing.T) {
	for _, line := range strings.Split(strings.Trim(byHand, "\n"), "\n") {
		words := strings.SplitN(line, " :", 3)
		p, g, f := head(t, words[0])
		arg, want := read(t, words[1]), strings.TrimSpace(words[2])
		v := match.New(f.Vars)
		v.Has[0], v.Values[0] = true, arg
		out, ok := match.Match(p, arg, v)
		got := "no"
		if ok && match.Guard(g, out) {
			var bound match.Vars
			for _, n := range sound.Bound(p) {
				bound.Has, bound.Values = append(bound.Has, out.Has[n]), append(bound.Values, out.Values[n])
			}
			got = shown(bound)
		}
		if got != want {
			t.Errorf("%s: %s", line, got)
		}
		if ok && (!out.Has[0] || entire(out.Values[0]) != entire(arg)) {
			t.Errorf("%s: the parameter: %s", line, shown(out))
		}
	}
}

// P11.2: the document's examples.
func TestExamples(t *testing.T) {
	one, two, five := num(1), num(2), num(5)
	none := api.Term{}
	fits(t, pats(bind(0), same(0)), tuple(atom("a"), atom("a")), match.New(1), atom("a"))
	refuses(t, pats(bind(0), same(0)), tuple(atom("a"), atom("b")), match.New(1))
	fits(t, cons(bind(0), bind(1)), list(one, two), match.New(2), one, list(two))
	fits(t, cons(bind(0), bind(1)), improper(two, one), match.New(2), one, two)
	fits(t, both(bind(0), is(five)), five, match.New(2), five, none)
	guards(t, true, some(all(bif("hd", the(list()))), all(yes)), match.New(0))
	guards(t, false, some(all(some(bif("hd", the(list())), yes))), match.New(0))
}

// eachKind is a node of each number that a Kind may have, of these Kids.
func eachKind(kids ...api.Core) map[api.CoreKind]api.Core {
	out := map[api.CoreKind]api.Core{}
	for kind := range 256 {
		out[api.CoreKind(kind)] = api.Core{Kind: api.CoreKind(kind), Kids: kids}
	}
	return out
}

// P11.2: each Kind that a node may have, of as many Kids that match anything, of terms of each kind.
func TestEachKind(t *testing.T) {
	v := vars(num(1), api.Term{})
	for n := range 5 {
		for kind, p := range eachKind(times(n, wild())...) {
			for _, x := range kinds() {
				want := []api.Term{num(1), {}}
				ok := false
				switch kind {
				case api.PatAny:
					ok = true
				case api.PatBind:
					ok, want[0] = true, x
				case api.PatSame:
					ok = entire(x) == "1"
				case api.PatTuple:
					ok = x.Kind == api.Tuple && len(x.Items) == n
				case api.PatCons:
					ok = n == 2 && x.Kind == api.List && len(x.Items) > 0
				case api.PatBoth:
					ok = n == 2
				}
				if ok {
					fits(t, p, x, v, want...)
				} else {
					refuses(t, p, x, v)
				}
			}
		}
	}
}

// P11.2: a Kid that does not match, in each place: the whole does not.
func TestKidThatDoesNotMatch(t *testing.T) {
	bads := []api.Core{is(atom("z")), is(api.Term{}), bind(4), bind(-1), same(2), same(3), same(4), pats(wild()), cons(wild()), both(wild()), {}, the(num(1)), x(0), some(), all()}
	v := vars(atom("y"), api.Term{}, api.Term{}, atom("y"))
	one := tuple(num(7))
	for _, wrong := range bads {
		for n := 1; n < 5; n++ {
			for place := range n {
				kids := times(n, wild())
				fits(t, pats(kids...), tuple(times(n, num(7))...), v, v.Values...)
				kids[place] = wrong
				refuses(t, pats(kids...), tuple(times(n, num(7))...), v)
			}
		}
		for _, l := range []api.Term{list(num(7)), list(num(7), num(8)), improper(num(8), num(7))} {
			refuses(t, cons(wrong, wild()), l, v)
			refuses(t, cons(wild(), wrong), l, v)
			refuses(t, cons(bind(0), wrong), l, v)
			refuses(t, cons(wild(), both(bind(0), wrong)), l, v)
		}
		refuses(t, both(wrong, wild()), num(7), v)
		refuses(t, both(wild(), wrong), num(7), v)
		refuses(t, both(bind(1), wrong), num(7), v)
		refuses(t, pats(both(bind(0), pats(wild()))), tuple(tuple(num(1), num(2))), v)
		refuses(t, both(pats(bind(1)), pats(wrong)), one, v)
	}
}

// P11.2: all other fields that a pattern may have make no difference, nor do Kids that its Kind has no use for.
func TestFieldsOfNoUse(t *testing.T) {
	looped := make([]api.Core, 2)
	looped[0], looped[1] = both(looped...), api.Core{}
	looped[0].Kids = looped
	v := vars(num(5), api.Term{})
	for _, kids := range [][]api.Core{nil, {}, {{}}, {wild()}, {wild(), wild()}, {bind(1)}, {bind(9)}, {same(1)}, looped} {
		for _, x := range kinds() {
			fits(t, api.Core{Kind: api.PatAny, Text: "a", Num: 9, Term: num(7), Kids: kids}, x, v, v.Values...)
			fits(t, api.Core{Kind: api.PatBind, Text: "a", Num: 1, Term: num(7), Kids: kids}, x, v, num(5), x)
			fits(t, api.Core{Kind: api.PatSame, Text: "a", Num: 0, Term: num(7), Kids: kids}, num(5), v, v.Values...)
			fits(t, api.Core{Kind: api.PatConst, Text: "a", Num: 9, Term: x, Kids: kids}, x, v, v.Values...)
		}
	}
	for _, flaw := range flaws() {
		fits(t, api.Core{Kind: api.PatTuple, Text: "a", Num: -1, Term: flaw, Kids: []api.Core{wild(), bind(1)}}, tuple(num(1), num(2)), v, num(5), num(2))
		fits(t, api.Core{Kind: api.PatCons, Text: "hd", Num: 9, Term: flaw, Kids: []api.Core{wild(), bind(1)}}, list(num(1), num(2)), v, num(5), list(num(2)))
		fits(t, api.Core{Kind: api.PatBoth, Text: "a", Num: 9, Term: flaw, Kids: []api.Core{wild(), bind(1)}}, list(num(1)), v, num(5), list(num(1)))
		fits(t, api.Core{Kind: api.PatBind, Num: 1, Term: flaw}, num(1), v, num(5), num(1))
	}
}

// P11.2: Nums of all sizes, with as many variables.
func TestNums(t *testing.T) {
	for _, count := range []int{0, 1, 2, 99, 100, 101, 1000} { // New makes no more than 100, but these are well made
		v := match.Vars{Has: make([]bool, count), Values: make([]api.Term, count)}
		full := match.Vars{Has: times(count, true), Values: times(count, atom("b"))}
		for _, n := range []int{math.MinInt, -1 << 32, math.MinInt32, -count - 1, -count, -2, -1, 0, 1, count / 2, count - 2, count - 1, count, count + 1, 99, 100, 101, 255, 256, 1 << 32, 1<<32 + 1, math.MaxInt - 1, math.MaxInt} {
			name := fmt.Sprintf("%d of %d", n, count)
			out, ok := match.Match(bind(n), atom("a"), v)
			if within := 0 <= n && n < count; !within {
				if got := told(out, ok); got != "no" {
					t.Errorf("%s: %s", name, cut(got))
				}
				refuses(t, same(n), atom("b"), full)
				refuses(t, pats(bind(n), same(n)), tuple(atom("b"), atom("b")), full)
				guards(t, false, some(x(n), bif("==", x(n), the(atom("b"))), bif("=/=", x(n), the(atom("b")))), full)
				continue
			}
			want := slices.Clone(v.Values)
			want[n] = atom("a")
			if got := told(out, ok); got != shown(vars(want...)) {
				t.Errorf("%s: %s", name, cut(got))
			}
			fits(t, same(n), atom("b"), full, full.Values...)
			refuses(t, same(n), atom("a"), full)
			refuses(t, same(n), atom("a"), v)
			fits(t, pats(bind(n), same(n)), tuple(atom("a"), atom("a")), v, want...)
			guards(t, true, some(bif("==", x(n), the(atom("b")))), full)
			guards(t, false, some(bif("=/=", x(n), the(atom("b")))), full)
			guards(t, false, some(bif("==", x(n), x(n))), v)
		}
	}
}

// P11.2: variables of which there are not as many Has as Values.
func TestNotWellMade(t *testing.T) {
	for has := range 5 {
		for values := range 5 {
			v := match.Vars{Has: times(has, true), Values: times(values, atom("true"))}
			if has == values {
				fits(t, wild(), num(1), v, v.Values...)
				guards(t, true, some(), v)
				guards(t, true, some(yes), v)
				continue
			}
			for _, p := range []api.Core{wild(), bind(0), same(0), is(atom("true")), pats(), both(wild(), wild()), {}} {
				refuses(t, p, atom("true"), v)
				refuses(t, p, tuple(), v)
			}
			guards(t, false, some(), v)
			guards(t, false, some(yes), v)
			guards(t, false, some(all()), v)
			guards(t, false, some(x(0)), v)
		}
	}
	for _, v := range []match.Vars{{}, {Has: []bool{}}, {Values: []api.Term{}}, {Has: []bool{}, Values: []api.Term{}}} {
		fits(t, wild(), num(1), v)
		refuses(t, bind(0), num(1), v)
		guards(t, true, some(), v)
	}
	for _, v := range []match.Vars{{Has: []bool{false}}, {Values: []api.Term{{}}}, {Has: times(100, false), Values: make([]api.Term, 99)}} {
		refuses(t, wild(), num(1), v)
		guards(t, false, some(), v)
	}
}

// P11.2: terms that are not right match nothing, whatever asks for nothing among it.
func TestTermsThatAreNotRight(t *testing.T) {
	v := vars(num(1), api.Term{})
	for _, flaw := range flaws() {
		for _, p := range []api.Core{wild(), bind(1), same(0), is(flaw), is(num(1)), pats(), pats(wild()), pats(wild(), wild()), cons(wild(), wild()), both(wild(), wild()), {}} {
			refuses(t, p, flaw, v)
		}
		for _, whole := range []api.Term{tuple(flaw), list(flaw), list(num(1), flaw), fun(1, flaw), tuple(num(1), tuple(flaw))} {
			for _, p := range []api.Core{wild(), pats(wild()), cons(wild(), wild()), cons(is(num(1)), wild()), pats(is(num(1)), wild()), bind(1)} {
				refuses(t, p, whole, v)
			}
		}
		// A PatConst of it matches no term; a variable that has it is the same as none.
		for _, x := range kinds() {
			refuses(t, is(flaw), x, v)
			refuses(t, same(0), x, match.Vars{Has: []bool{true}, Values: []api.Term{flaw}})
			fits(t, pats(bind(0), same(0)), tuple(atom("b"), atom("b")), match.Vars{Has: []bool{true}, Values: []api.Term{flaw}}, atom("b"))
		}
	}
}

// P11.2: which terms are the same.
func TestSameAndConst(t *testing.T) {
	terms := kinds()
	for i, x := range terms {
		for k, y := range terms {
			v := vars(x, api.Term{})
			if i == k {
				fits(t, same(0), y, v, v.Values...)
				fits(t, is(x), y, v, v.Values...)
				continue
			}
			refuses(t, same(0), y, v)
			refuses(t, is(x), y, v)
			if pair := tuple(x, y); len(x.Items) < 100 && len(y.Items) < 100 {
				refuses(t, pats(bind(1), same(1)), pair, v)
				fits(t, pats(bind(1), wild()), pair, v, x, x)
				fits(t, pats(bind(0), both(bind(1), same(1))), pair, v, x, y)
			}
		}
		// A value that is there, but does not count.
		refuses(t, same(0), x, match.Vars{Has: []bool{false}, Values: []api.Term{x}})
		guards(t, false, some(bif("==", numbered(api.CoreVar, 0), the(x))), match.Vars{Has: []bool{false}, Values: []api.Term{x}})
	}
}

// P11.2, R6: lists without elements and nil ones are one.
func TestEmptyLists(t *testing.T) {
	empties := []api.Term{list(), {Kind: api.List, Items: []api.Term{}}, {Kind: api.List, Limbs: []uint32{}, Tail: []api.Term{}}}
	tuples := []api.Term{tuple(), {Kind: api.Tuple, Items: []api.Term{}, Tail: []api.Term{}, Limbs: []uint32{}}}
	for _, x := range empties {
		for _, y := range empties {
			fits(t, is(x), y, match.New(0))
			fits(t, same(0), y, vars(x), y)
			fits(t, pats(bind(0), same(0)), tuple(x, y), match.New(1), list())
			fits(t, cons(bind(0), same(0)), list(x), match.New(1), list())
			fits(t, cons(is(x), is(y)), list(x), match.New(0))
		}
		refuses(t, cons(wild(), wild()), x, match.New(0))
		refuses(t, pats(), x, match.New(0))
		fits(t, cons(is(num(1)), is(x)), api.Term{Kind: api.List, Items: []api.Term{num(1)}, Tail: []api.Term{}}, match.New(0))
	}
	for _, x := range tuples {
		for _, kids := range [][]api.Core{nil, {}} {
			fits(t, api.Core{Kind: api.PatTuple, Kids: kids}, x, match.New(0))
		}
	}
	guards(t, true, api.Core{Kind: api.GuardAny, Kids: []api.Core{}}, match.New(0))
	guards(t, true, some(api.Core{Kind: api.GuardAll, Kids: []api.Core{}}), match.New(0))
	guards(t, true, some(bif("==", api.Core{Kind: api.CoreTuple, Kids: []api.Core{}}, the(tuple()))), match.New(0))
}

// P11.2: parts are matched from left to right, each one with what those ahead of it have bound.
func TestOrder(t *testing.T) {
	v := vars(atom("old"), api.Term{})
	two, three := tuple(num(1), num(2)), tuple(num(1), num(1), num(2))
	// A variable that is asked for ahead of where it is bound, and behind it.
	refuses(t, pats(same(1), bind(1)), tuple(num(1), num(1)), v)
	fits(t, pats(bind(1), same(1)), tuple(num(1), num(1)), v, atom("old"), num(1))
	refuses(t, pats(same(0), bind(0)), two, v)
	fits(t, pats(same(0), bind(0)), tuple(atom("old"), num(2)), v, num(2), api.Term{})
	fits(t, pats(same(0), bind(0), same(0)), tuple(atom("old"), num(2), num(2)), v, num(2), api.Term{})
	refuses(t, pats(same(0), bind(0), same(0)), tuple(atom("old"), num(2), atom("old")), v)
	refuses(t, pats(bind(0), same(0)), tuple(num(2), atom("old")), v)
	// One that is bound anew.
	fits(t, bind(0), num(7), v, num(7), api.Term{})
	fits(t, pats(bind(1), bind(1)), two, v, atom("old"), num(2))
	fits(t, pats(bind(0), same(0), bind(0)), three, v, num(2), api.Term{})
	refuses(t, pats(bind(0), bind(0), same(0)), tuple(num(1), num(2), num(1)), v)
	fits(t, pats(bind(0), bind(0), same(0)), tuple(num(2), num(1), num(1)), v, num(1), api.Term{})
	// Likewise of lists: the first item, then the rest.
	refuses(t, cons(same(1), bind(1)), improper(num(1), num(1)), v)
	fits(t, cons(bind(1), same(1)), improper(num(1), num(1)), v, atom("old"), num(1))
	fits(t, cons(bind(0), bind(0)), list(num(1), num(2)), v, list(num(2)), api.Term{})
	fits(t, cons(bind(1), cons(same(1), bind(1))), list(num(1), num(1), num(2)), v, atom("old"), list(num(2)))
	// And of both.
	refuses(t, both(same(1), bind(1)), num(1), v)
	fits(t, both(bind(1), same(1)), num(1), v, atom("old"), num(1))
	fits(t, both(pats(bind(0), bind(1)), pats(same(0), same(1))), two, v, num(1), num(2))
	refuses(t, both(pats(bind(0), bind(1)), pats(same(1), same(0))), two, v)
	fits(t, both(pats(bind(0), bind(1)), pats(bind(1), bind(0))), two, v, num(2), num(1))
	fits(t, both(pats(bind(0), wild()), pats(wild(), bind(0))), two, v, num(2), api.Term{})
	refuses(t, both(pats(wild(), bind(0)), pats(same(0), wild())), two, v)
	// Deeper ones, left to right all the same.
	fits(t, pats(pats(bind(1)), cons(same(1), wild())), tuple(tuple(num(1)), list(num(1))), v, atom("old"), num(1))
	refuses(t, pats(cons(same(1), wild()), pats(bind(1))), tuple(list(num(1)), tuple(num(1))), v)
	fits(t, cons(cons(bind(1), bind(0)), cons(same(1), same(0))), list(list(num(1), num(2)), num(1), num(2)), v, list(num(2)), num(1))
}

// P11.2: a match that fails behind something that was bound tells nothing, and leaves v as it was.
func TestFailsBehindWhatWasBound(t *testing.T) {
	for _, wrong := range []api.Core{is(atom("z")), bind(4), bind(-1), same(3), {}, pats(times(7, bind(1))...), cons(bind(1)), both(bind(1), is(num(0)))} {
		v := vars(num(1), num(2), api.Term{}, api.Term{})
		for _, p := range []api.Core{
			pats(bind(0), wrong), pats(bind(0), pats(bind(1), bind(2)), wrong), both(bind(0), wrong), both(bind(2), both(bind(0), wrong)), cons(bind(0), wrong), cons(wild(), cons(bind(2), wrong)),
		} {
			for _, x := range []api.Term{num(9), tuple(num(8), num(9)), tuple(num(8), tuple(num(9), num(10)), num(9)), list(num(8), num(9)), list(num(8))} {
				refuses(t, p, x, v)
				if shown(v) != "1 2 - -" {
					t.Fatalf("%s changed v: %s", written(p), shown(v))
				}
			}
		}
	}
}
