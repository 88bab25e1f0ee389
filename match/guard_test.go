package match_test

import (
	"slices"
	"strconv"
	"strings"
	"testing"

	"pigeonhole/api"
	layer10 "pigeonhole/bif"
	"pigeonhole/lint"
	"pigeonhole/match"
)

// What is built in, as chapter 7 has it.
const (
	forGuards  = `+ - * div rem == /= =:= =/= < =< > >= and or xor / 2; + - not / 1; abs hd tl length tuple_size is_integer is_atom is_tuple is_list is_pid is_reference is_function is_boolean / 1; element is_function / 2`
	notForThem = `++ -- max min nth nthtail member seq / 2; setelement / 3; tuple_to_list list_to_tuple atom_to_list list_to_atom integer_to_list list_to_integer reverse sum sort usort last throw error exit / 1; self make_ref now / 0; spawn spawn_link spawn_monitor link unlink monitor demonitor trap_exit unregister whereis print / 1; ! exit register / 2`
)

type signature struct {
	name  string
	arity int
}

func signatures(s string) []signature {
	var out []signature
	for _, group := range strings.Split(s, "; ") {
		words := strings.Fields(group)
		arity, _ := strconv.Atoi(words[len(words)-1])
		for _, name := range words[:len(words)-2] {
			out = append(out, signature{name, arity})
		}
	}
	return out
}

// P11.4: each Kind that g may have, with so many Kids.
func TestEachKindOfGuard(t *testing.T) {
	for _, kids := range [][]api.Core{nil, {yes}, {no}, {a}, {bad}, {yes, yes}, {no, yes}, {no, no}, {a, yes}, {bad, yes}, {yes, bad}, {no, a, yes}, {bad, a, no}} {
		want := len(kids) == 0 || slices.ContainsFunc(kids, func(c api.Core) bool { return c.Term.Text == "true" })
		for kind, g := range eachKind(kids...) {
			g.Term, g.Text = atom("true"), "not"
			guards(t, want && kind == api.GuardAny, g, match.New(1))
		}
	}
}

// P11.4: some Kid's value is true; one that fails, or is something else, is not, and those behind it are asked.
func TestAlternatives(t *testing.T) {
	values := map[string]api.Core{"true": yes, "false": no, "a": a, "fails": bad, "1": the(num(1)), "no Kind": {}, "no value": x(0), "[true]": the(list(atom("true"))), "nothing": {Kind: api.CoreConst}}
	for _, first := range values {
		isTrue := entire(first.Term) == "true"
		guards(t, isTrue, some(first), match.New(1))
		for _, second := range values {
			isTrue := isTrue || entire(second.Term) == "true"
			guards(t, isTrue, some(first, second), match.New(1))
			guards(t, isTrue, some(all(first), all(second)), match.New(1))
			for _, third := range values {
				guards(t, isTrue || entire(third.Term) == "true", some(first, second, third), match.New(1))
			}
		}
	}
	guards(t, true, some(append(times(1000, bad), yes)...), match.New(0))
	guards(t, false, some(times(1000, bad)...), match.New(0))
	guards(t, true, some(all()), match.New(0))
	guards(t, false, some(some()), match.New(0))
	guards(t, false, some(some(), all(no)), match.New(0))
	guards(t, true, some(some(), all()), match.New(0))
}

// P11.3: of a GuardAll, a GuardAny each value in each place, with so many Kids.
func TestAllAndAny(t *testing.T) {
	type kid struct {
		c     api.Core
		value string // nothing, if it fails
	}
	kids := []kid{{yes, "true"}, {no, "false"}, {a, "a"}, {the(num(1)), "1"}, {the(list()), "[]"}, {bad, ""}, {all(), "true"}, {some(), "false"}, {the(atom("True")), "'True'"}, {the(atom("")), "''"}, {x(0), "a"}, {x(1), ""}}
	terms := map[string]api.Term{"": {}, "true": atom("true"), "false": atom("false"), "a": atom("a"), "1": num(1), "[]": list(), "'True'": atom("True"), "''": atom("")}
	v := vars(atom("a"), api.Term{})
	// told is what the chapter says, of those ahead of the last one and then of that.
	told := func(ends, goesOn string, row []kid) string {
		for i, k := range row {
			switch {
			case i == len(row)-1 || k.value == ends || k.value == "":
				return k.value
			case k.value != goesOn:
				return ""
			}
		}
		return goesOn
	}
	var try func(row []kid)
	try = func(row []kid) {
		var cores []api.Core
		for _, k := range row {
			cores = append(cores, k.c)
		}
		for c, want := range map[int]string{0: told("false", "true", row), 1: told("true", "false", row)} {
			e := []api.Core{all(cores...), some(cores...)}[c]
			if want == "" {
				fails(t, e, v)
			} else {
				values(t, terms[want], e, v)
			}
		}
		if len(row) < 3 {
			for _, k := range kids {
				try(append(slices.Clone(row), k))
			}
		}
	}
	try(nil)
}

// P11.3: no more are asked behind the one that ends.
func TestNoMoreAreAsked(t *testing.T) {
	for _, behind := range [][]api.Core{{bad}, {a}, {{}}, {x(7)}, {a, bad}, {bad, a, {}}, times(1000, bad)} {
		values(t, atom("false"), all(append([]api.Core{no}, behind...)...), match.New(0))
		values(t, atom("true"), some(append([]api.Core{yes}, behind...)...), match.New(0))
		values(t, atom("false"), all(append([]api.Core{yes, yes, no}, behind...)...), match.New(0))
		values(t, atom("true"), some(append([]api.Core{no, no, yes}, behind...)...), match.New(0))
	}
}

// P11.3: constants and variables.
func TestConstantsAndVariables(t *testing.T) {
	for _, v := range kinds() {
		values(t, v, the(v), match.New(0))
		values(t, v, x(0), vars(v))
		values(t, v, x(2), vars(api.Term{}, atom("b"), v))
		fails(t, x(0), match.Vars{Has: []bool{false}, Values: []api.Term{v}})
		// What they have beside that, Kids too, makes no difference.
		values(t, v, api.Core{Kind: api.CoreConst, Term: v, Num: -1, Text: "hd", Kids: []api.Core{bad, {}}}, match.New(0))
		values(t, v, api.Core{Kind: api.CoreVar, Term: num(9), Text: "hd", Kids: []api.Core{bad, {}}}, vars(v))
	}
	for _, flaw := range flaws() {
		fails(t, the(flaw), match.New(0))
		fails(t, row(the(flaw)), match.New(0))
		fails(t, cell(the(flaw), the(list())), match.New(0))
		fails(t, cell(a, the(flaw)), match.New(0))
		fails(t, bif("is_atom", the(flaw)), match.New(0))
		v := match.Vars{Has: []bool{true}, Values: []api.Term{flaw}}
		guards(t, false, some(x(0)), v)
		guards(t, false, some(all(x(0))), v)
		guards(t, false, some(some(x(0), yes)), v)
		guards(t, false, some(some(no, x(0)), row(x(0)), bif("not", x(0))), v)
		fails(t, row(x(0)), v)
		fails(t, cell(x(0), the(list())), v)
		fails(t, bif("is_atom", x(0)), v)
		guards(t, true, some(x(0), yes), v)
	}
	for _, n := range []int{-1, 1, 2, 100} {
		fails(t, x(n), vars(atom("true")))
	}
}

// P11.3: each Kind that an expression may have, with so many Kids.
func TestEachKindOfExpression(t *testing.T) {
	for n := range 5 {
		for kind, e := range eachKind(times(n, yes)...) {
			want := api.Term{}
			switch kind {
			case api.CoreConst:
				e.Term, want = num(7), num(7)
			case api.CoreVar:
				want = num(8)
			case api.CoreTuple:
				want = tuple(times(n, atom("true"))...)
			case api.CoreCons:
				if n == 2 {
					want = improper(atom("true"), atom("true"))
				}
			case api.CoreBif:
				if e.Text = "xor"; n == 2 {
					want = atom("false")
				}
			case api.GuardAll:
				want = atom("true")
			case api.GuardAny:
				if want = atom("true"); n == 0 {
					want = atom("false")
				}
			}
			if zero(want) {
				fails(t, e, vars(num(8)))
			} else {
				values(t, want, e, vars(num(8)))
			}
		}
	}
}

// P11.3: a Kid that fails, in each place.
func TestKidThatFails(t *testing.T) {
	for _, wrong := range []api.Core{bad, {}, x(1), x(-1), the(api.Term{}), wild(), bind(0), cell(a), row(bad), bif("self"), bif("+", a, a), all(bad), some(a, yes), of(api.CoreLet, a, a), of(api.CoreFail), of(api.CoreClause, wild(), some(), a)} {
		for n := 1; n < 5; n++ {
			for place := range n {
				kids := times(n, yes)
				kids[place] = wrong
				fails(t, row(kids...), match.New(1))
				fails(t, all(kids...), match.New(1))
				if n < 3 {
					fails(t, bif([]string{"", "is_atom", "=="}[n], kids...), match.New(1))
				}
				if n == 2 {
					fails(t, cell(kids...), match.New(1))
				}
				kids = times(n, no)
				kids[place] = wrong
				fails(t, some(kids...), match.New(1))
			}
		}
		fails(t, row(row(cell(row(wrong), the(list())))), match.New(1))
	}
}

// P11.3: tuples and lists that expressions make.
func TestTuplesAndLists(t *testing.T) {
	v := vars(num(1), list(num(2)), list(), improper(num(3), num(2)))
	values(t, tuple(), row(), v)
	values(t, tuple(num(1)), row(x(0)), v)
	values(t, tuple(num(1), list(num(2)), num(1)), row(x(0), x(1), x(0)), v)
	values(t, tuple(tuple(), tuple(num(1))), row(row(), row(x(0))), v)
	values(t, list(num(1), num(2)), cell(x(0), x(1)), v)
	values(t, list(num(1)), cell(x(0), x(2)), v)
	values(t, improper(num(3), num(1), num(2)), cell(x(0), x(3)), v)
	values(t, improper(num(1), num(1)), cell(x(0), x(0)), v)
	values(t, list(list(num(2)), num(2)), cell(x(1), x(1)), v)
	values(t, list(num(1), num(1)), cell(x(0), cell(x(0), x(2))), v)
	values(t, improper(tuple(num(1)), tuple()), cell(row(), row(x(0))), v)
	values(t, tuple(atom("false"), atom("true")), row(some(), all()), v)
	for n := range 6 {
		if n != 2 {
			fails(t, cell(times(n, x(2))...), v)
		}
	}
}

// P11.3: what would be above what a term may be.
func TestTooGreat(t *testing.T) {
	for _, size := range []int{api.MaxSize - 3, api.MaxSize - 2, api.MaxSize - 1, api.MaxSize} {
		v := vars(greatTuple(size))
		check := func(made api.Term, extra int, e api.Core) {
			t.Helper()
			if size+extra > api.MaxSize {
				fails(t, e, v)
			} else {
				values(t, made, e, v)
			}
		}
		check(tuple(v.Values[0]), 1, row(x(0)))
		check(tuple(v.Values[0], atom("a")), 2, row(x(0), a))
		check(tuple(tuple(v.Values[0])), 2, row(row(x(0))))
		check(list(v.Values[0]), 2, cell(x(0), the(list())))
		check(improper(v.Values[0], atom("a")), 3, cell(a, x(0)))
		fails(t, row(x(0), x(0)), v)
		fails(t, cell(x(0), x(0)), v)
	}
	for _, size := range []int{api.MaxSize - 3, api.MaxSize - 1} {
		l := greatList(size)
		v := vars(l)
		if size+2 <= api.MaxSize {
			values(t, list(append([]api.Term{atom("a")}, l.Items...)...), cell(a, x(0)), v)
			fails(t, cell(the(num(1)), cell(a, x(0))), v)
		} else {
			fails(t, cell(a, x(0)), v)
		}
		fails(t, cell(x(0), x(0)), v)
		values(t, num(int64(len(l.Items))), bif("length", x(0)), v)
	}
	values(t, tuple(times(4095, atom("a"))...), row(times(4095, a)...), match.New(0))
	fails(t, row(times(4096, a)...), match.New(0))
	fails(t, row(times(100000, a)...), match.New(0))
	fails(t, bif("tuple_size", row(times(4096, a)...)), match.New(0))
	fails(t, bif("+", the(most), the(num(1))), match.New(0))
	fails(t, bif("*", the(most), the(most)), match.New(0))
}

// P11.3: what is built in for guards, of terms of each kind: it is what bif.Call makes; it fails, if that is an error.
func TestBuiltIn(t *testing.T) {
	terms := slices.DeleteFunc(kinds(), func(t api.Term) bool { return len(t.Items) > 100 })
	for _, s := range signatures(forGuards) {
		for _, first := range terms {
			for _, second := range terms {
				args := []api.Term{first, second}[:s.arity]
				value, _, ok := layer10.Call(s.name, args)
				if !ok {
					t.Fatalf("%s/%d", s.name, s.arity)
				}
				e, v := bif2(s.name, the(first), x(1))[s.arity], vars(first, second)
				guards(t, entire(value) == "true", some(e), v)
				if zero(value) {
					guards(t, false, some(bif("==", e, e)), v)
				} else {
					guards(t, true, some(bif("==", e, the(value))), v)
				}
				if s.arity == 1 {
					break
				}
			}
		}
	}
	values(t, num(3), bif("+", the(num(1)), the(num(2))), match.New(0))
	values(t, num(-1), bif("-", the(num(1)), the(num(2))), match.New(0))
	values(t, num(-7), bif("-", bif("+", the(num(7)))), match.New(0))
	values(t, num(1), bif("rem", bif("*", the(num(5)), the(num(5))), the(num(3))), match.New(0))
	values(t, atom("true"), bif("<", the(num(1)), a), match.New(0))
	values(t, atom("b"), bif("element", the(num(2)), row(a, bif("hd", cell(the(atom("b")), a)))), match.New(0))
	fails(t, bif("div", the(num(1)), the(num(0))), match.New(0))
	fails(t, bif("element", the(num(0)), row(a)), match.New(0))
	fails(t, bif("and", no, a), match.New(0))
	fails(t, bif("or", yes, bad), match.New(0))
}

// bif2 is that name of no arguments, of the first one, of both.
func bif2(name string, first, second api.Core) [3]api.Core {
	return [3]api.Core{bif(name), bif(name, first), bif(name, first, second)}
}

// P11.3: names with other numbers of arguments, and what is not built in for guards.
func TestNotBuiltInForGuards(t *testing.T) {
	known := map[signature]struct{}{}
	for _, s := range signatures(forGuards) {
		known[s] = struct{}{}
	}
	if len(known) != 34 {
		t.Errorf("%d of them", len(known))
	}
	// Of these all that is built in makes something, if it is asked.
	fillers := [][]api.Core{times(6, the(num(1))), times(6, the(list(num(49)))), times(6, yes), times(6, row(yes)), {the(num(1)), row(yes), yes, yes, yes, yes}, times(6, a)}
	names := map[string]struct{}{"": {}, "f": {}, "andalso": {}, "orelse": {}, "=": {}, "hd ": {}, "HD": {}, "is_float": {}, "\x00": {}, "true": {}, strings.Repeat("a", 1000): {}}
	for _, s := range append(signatures(forGuards), signatures(notForThem)...) {
		names[s.name] = struct{}{}
	}
	for name := range names {
		for arity := range 6 {
			_, ok := known[signature{name, arity}]
			if ok != (lint.Kind(name, arity) == lint.Guards) {
				t.Errorf("%s/%d: lint tells otherwise", name, arity)
			}
			made := 0
			for _, filler := range fillers {
				if e := bif(name, filler[:arity]...); !ok {
					fails(t, e, match.New(0))
				} else if match.Guard(some(bif("==", e, e)), match.New(0)) {
					made++
				}
			}
			if ok && made == 0 {
				t.Errorf("%s/%d makes nothing", name, arity)
			}
		}
	}
}

// P11.3: deeper ones, put together of all.
func TestPutTogether(t *testing.T) {
	v := vars(num(3), list(num(1), num(2)), atom("true"), api.Term{})
	for _, c := range []struct {
		want bool
		e    api.Core
	}{
		{true, all(bif(">", x(0), the(num(1))), bif("==", bif("length", x(1)), the(num(2))), x(2))},
		{false, all(bif(">", x(0), the(num(1))), bif("==", bif("length", x(0)), the(num(2))), x(2))},
		{true, some(all(bif(">", the(num(1)), x(0)), x(3)), x(2))},
		{false, some(all(bif(">", x(0), the(num(1))), x(3)), x(2))},
		{true, bif("not", all(x(2), some(no, no)))},
		{true, bif("==", row(all(x(2), x(0)), some(no, x(1))), row(x(0), x(1)))},
		{true, bif("xor", all(), some())},
		{true, bif("is_integer", all(all(all(x(0)))))},
		{false, all(all(all(x(0))))},
		{false, bif("is_atom", all(x(0), x(2)))},
		{true, bif("is_atom", some(no, all(x(2), x(2), a)))},
		{true, bif("==", cell(x(0), x(1)), cell(bif("+", bif("hd", x(1)), the(num(2))), bif("tl", cell(a, x(1)))))},
	} {
		guards(t, c.want, some(c.e), v)
		guards(t, c.want, some(all(c.e)), v)
		guards(t, c.want, some(bad, no, all(c.e), all(bad)), v)
	}
}
