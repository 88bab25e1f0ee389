package step_test

import (
	"slices"
	"strconv"
	"strings"
	"testing"

	"pigeonhole/api"
	"pigeonhole/core"
	"pigeonhole/mail"
	"pigeonhole/parse"
	"pigeonhole/sound"
	"pigeonhole/step"
	"pigeonhole/term"
	"pigeonhole/whole"
)

func num(n int64) api.Term { return whole.Of(n) }

func atom(s string) api.Term { return api.Term{Kind: api.Atom, Text: s} }

func ref(n int) api.Term { return api.Term{Kind: api.Ref, Num: n} }

func pid(n int) api.Term { return api.Term{Kind: api.Pid, Num: n} }

func fun(n int, items ...api.Term) api.Term { return api.Term{Kind: api.Fun, Num: n, Items: items} }

func tuple(items ...api.Term) api.Term { return api.Term{Kind: api.Tuple, Items: items} }

func list(items ...api.Term) api.Term { return api.Term{Kind: api.List, Items: items} }

func improper(tail api.Term, items ...api.Term) api.Term {
	return api.Term{Kind: api.List, Items: items, Tail: []api.Term{tail}}
}

func times[T any](n int, x T) []T { return slices.Repeat([]T{x}, n) }

// great is a tuple of that size.
func great(size int) api.Term { return tuple(times(size-1, atom("a"))...) }

// kinds are right terms of each kind.
func kinds() []api.Term {
	return []api.Term{
		num(0), num(1), num(-1), num(1 << 40), {Kind: api.Int, Limbs: times(api.MaxLimbs, ^uint32(0))},
		atom(""), atom("a"), atom("infinity"), atom(strings.Repeat("\xff", api.MaxName)),
		ref(0), ref(1 << 40), pid(0), pid(1 << 40),
		fun(0), fun(api.MaxCode, num(1), list(atom("a"))),
		tuple(), tuple(num(-7)), tuple(tuple(atom("a")), tuple(), tuple(pid(1), ref(1))),
		list(), list(atom("a")), list(list(), list(num(1)), list(atom("b"), atom("c"))),
		improper(atom("t"), atom("h")), improper(tuple(num(5), fun(1, atom("x"))), list(atom("a")), num(6)),
		great(api.MaxSize),
	}
}

// flaws are terms that are not right.
func flaws() []api.Term {
	loop := make([]api.Term, 1)
	loop[0] = tuple(loop...)
	loop[0].Items = loop
	double := tuple()
	for range 200 {
		double = tuple(double, double)
	}
	deep := atom("a")
	for range 100_000 {
		deep = tuple(deep)
	}
	return []api.Term{
		{}, {Kind: 8}, {Kind: api.Int, Neg: true}, {Kind: api.Int, Limbs: []uint32{0}}, {Kind: api.Int, Limbs: times(api.MaxLimbs+1, uint32(1))},
		atom(strings.Repeat("a", api.MaxName+1)), {Kind: api.Atom, Text: "a", Num: 1}, ref(-1), pid(1<<40 + 1), fun(-1), fun(api.MaxCode + 1),
		tuple(api.Term{}), {Kind: api.Tuple, Tail: []api.Term{atom("a")}}, {Kind: api.List, Tail: []api.Term{atom("a")}}, improper(list(), atom("b")),
		great(api.MaxSize + 1), list(make([]api.Term, 5000)...), loop[0], double, deep,
	}
}

func of(kind api.CoreKind, kids ...api.Core) api.Core { return api.Core{Kind: kind, Kids: kids} }

func numbered(kind api.CoreKind, n int, kids ...api.Core) api.Core {
	return api.Core{Kind: kind, Num: n, Kids: kids}
}

func wild() api.Core { return of(api.PatAny) }

func bind(n int) api.Core { return numbered(api.PatBind, n) }

func same(n int) api.Core { return numbered(api.PatSame, n) }

func is(t api.Term) api.Core { return api.Core{Kind: api.PatConst, Term: t} }

func pats(kids ...api.Core) api.Core { return of(api.PatTuple, kids...) }

func the(t api.Term) api.Core { return api.Core{Kind: api.CoreConst, Term: t} }

func x(n int) api.Core { return numbered(api.CoreVar, n) }

func row(kids ...api.Core) api.Core { return of(api.CoreTuple, kids...) }

func cell(h, r api.Core) api.Core { return of(api.CoreCons, h, r) }

func let(n int, first, second api.Core) api.Core { return numbered(api.CoreLet, n, first, second) }

func call(n int, kids ...api.Core) api.Core { return numbered(api.CoreCall, n, kids...) }

func apply(kids ...api.Core) api.Core { return of(api.CoreApply, kids...) }

func closure(n int, kids ...api.Core) api.Core { return numbered(api.CoreFun, n, kids...) }

func bif(name string, kids ...api.Core) api.Core {
	return api.Core{Kind: api.CoreBif, Text: name, Kids: kids}
}

func cases(kids ...api.Core) api.Core { return of(api.CoreCase, kids...) }

func try(kids ...api.Core) api.Core { return of(api.CoreTry, kids...) }

func receive(clauses ...api.Core) api.Core { return of(api.CoreReceive, clauses...) }

// within is a receive with a time and what comes behind that.
func within(time, late api.Core, clauses ...api.Core) api.Core {
	return numbered(api.CoreReceive, 1, append(slices.Clone(clauses), time, late)...)
}

func fail(text string, kids ...api.Core) api.Core {
	return api.Core{Kind: api.CoreFail, Text: text, Kids: kids}
}

// clause is one without a guard.
func clause(pattern, body api.Core) api.Core {
	return of(api.CoreClause, pattern, of(api.GuardAny), body)
}

// guarded is one with a guard.
func guarded(pattern, guard, body api.Core) api.Core {
	return of(api.CoreClause, pattern, of(api.GuardAny, of(api.GuardAll, guard)), body)
}

// one, bad and say are nodes that come to a value, to an error, and that ask the world.
func one() api.Core { return the(num(1)) }

func bad(reason string) api.Core { return fail(reason) }

func say(n int64) api.Core { return bif("print", the(num(n))) }

// function is one of so many parameters, which has 100 variables.
func function(arity int, body api.Core) api.Func {
	return api.Func{Arity: arity, Vars: api.MaxVars, Body: body}
}

// lambda is one that has captured some of its parameters.
func lambda(extra, arity int, body api.Core) api.Func {
	return api.Func{Extra: extra, Arity: arity, Vars: api.MaxVars, Body: body}
}

func program(t testing.TB, funcs ...api.Func) api.Program {
	t.Helper()
	p := api.Program{Funcs: funcs}
	if e := sound.Check(p); e != api.OK {
		for _, f := range funcs {
			t.Log(cut(sound.Show(f.Body)))
		}
		t.Fatal("not sound:", e)
	}
	return p
}

// source is the program that a text tells.
func source(t testing.TB, src string) api.Program {
	t.Helper()
	m, fault := parse.Module(src)
	if fault.Err != api.OK {
		t.Fatal(src, fault)
	}
	p, e := core.Make(m)
	if e != api.OK {
		t.Fatal(src, e)
	}
	return p
}

// begun is a process that begins with the program's first function, and its box.
func begun(t testing.TB, p api.Program, args ...api.Term) (*step.Proc, *mail.Box) {
	t.Helper()
	x := step.New(p, fun(0), args)
	if x == nil {
		t.Fatal("no process")
	}
	return x, mail.New()
}

// alike tells whether two terms have the same fields; lists without elements and nil ones are one.
func alike(a, b api.Term) bool {
	row := func(a, b []api.Term) bool { return slices.EqualFunc(a, b, alike) }
	return a.Kind == b.Kind && a.Neg == b.Neg && a.Text == b.Text && a.Num == b.Num && slices.Equal(a.Limbs, b.Limbs) && row(a.Items, b.Items) && row(a.Tail, b.Tail)
}

// entire is all of a term: unlike its text it tells funs with unlike Items from each other.
func entire(t api.Term) string {
	var parts []string
	for _, item := range t.Items {
		parts = append(parts, entire(item))
	}
	for _, item := range t.Tail {
		parts = append(parts, "|"+entire(item))
	}
	inside := strings.Join(parts, ",")
	switch t.Kind {
	case 0:
		if alike(t, api.Term{}) {
			return "-"
		}
	case api.Fun:
		return "#" + strconv.Itoa(t.Num) + "(" + inside + ")"
	case api.Tuple:
		return "{" + inside + "}"
	case api.List:
		return "[" + inside + "]"
	}
	if !term.Right(t) {
		return "?"
	}
	return term.Text(t)
}

// shown is all of an event.
func shown(e step.Event) string {
	var args []string
	for _, t := range e.Args {
		args = append(args, entire(t))
	}
	kind := strconv.Itoa(e.Kind)
	if e.Kind >= 0 && e.Kind <= 4 {
		kind = []string{"nothing", "spent", "asks", "waits", "ends"}[e.Kind]
	}
	out := kind
	if e.Name != "" || len(args) > 0 {
		out += " " + e.Name + "(" + strings.Join(args, ",") + ")"
	}
	if e.Reason.Kind != 0 || !alike(e.Reason, api.Term{}) {
		out += " " + entire(e.Reason)
	}
	return out + " took " + strconv.Itoa(e.Took)
}

// comes asks that a process comes to an event, as shown tells it.
func comes(t testing.TB, x *step.Proc, n int, m *mail.Box, want string) {
	t.Helper()
	if got := shown(x.Run(n, m)); got != want {
		t.Errorf("Run(%d): %s, not %s", n, cut(got), cut(want))
	}
}

func answers(t testing.TB, x *step.Proc, a api.Term, want api.Errno) {
	t.Helper()
	if got := x.Answer(a); got != want {
		t.Errorf("Answer: %d, not %d", got, want)
	}
}

func raises(t testing.TB, x *step.Proc, a api.Term, want api.Errno) {
	t.Helper()
	if got := x.Raise(a); got != want {
		t.Errorf("Raise: %d, not %d", got, want)
	}
}

func isOver(t testing.TB, x *step.Proc, want api.Errno) {
	t.Helper()
	if got := x.Over(); got != want {
		t.Errorf("Over: %d, not %d", got, want)
	}
}

func hasTime(t testing.TB, x *step.Proc, time int, timed bool) {
	t.Helper()
	if n, ok := x.Time(); n != time || ok != timed {
		t.Errorf("Time: %d %v, not %d %v", n, ok, time, timed)
	}
}

// hasLetters asks for the letters of a box, with | ahead of the one that its look is at.
func hasLetters(t testing.TB, m *mail.Box, want string) {
	t.Helper()
	if got := letters(m); got != want {
		t.Errorf("letters: %s, not %s", cut(got), cut(want))
	}
}

func letters(m *mail.Box) string {
	m = m.Copy()
	left := 0
	for m.Skip() == api.OK {
		left++
	}
	var out []string
	for i, t := range m.All() {
		if i == m.Len()-left {
			out = append(out, "|")
		}
		out = append(out, entire(t))
	}
	if left == 0 {
		out = append(out, "|")
	}
	return strings.Join(out, " ")
}

func put(t testing.TB, m *mail.Box, letters ...api.Term) {
	t.Helper()
	for _, l := range letters {
		if e := m.Put(l); e != api.OK {
			t.Fatal("Put:", e)
		}
	}
}

func cut(s string) string {
	if len(s) > 400 {
		return s[:300] + ".. (" + strconv.Itoa(len(s)) + " bytes)"
	}
	return s
}

// outcome is what an expression comes to in a function with these parameters, and how many reductions that took.
// It is told to the world: so its class is told too, and a value may be of the greatest size.
func outcome(t testing.TB, e api.Core, args []api.Term, others ...api.Func) (value, raised api.Term, took int) {
	t.Helper()
	body := try(bif("print", e), clause(bind(99), bif("whereis", x(99))))
	p := program(t, append([]api.Func{function(len(args), body)}, others...)...)
	proc, m := begun(t, p, args...)
	event := proc.Run(1_000_000, m)
	if event.Kind != step.Asks || len(event.Args) != 1 {
		t.Errorf("%s comes to %s", cut(sound.Show(e)), cut(shown(event)))
		return api.Term{}, api.Term{}, 0
	}
	switch event.Name {
	case "print":
		return event.Args[0], api.Term{}, event.Took - 1
	default:
		return api.Term{}, event.Args[0], event.Took - 1
	}
}

// reckons asks that an expression comes to a value.
func reckons(t testing.TB, e api.Core, args []api.Term, want api.Term, took int, others ...api.Func) {
	t.Helper()
	value, raised, n := outcome(t, e, args, others...)
	if !alike(value, want) || raised.Kind != 0 || n != took {
		t.Errorf("%s: value %s, error %s, took %d; not %s, took %d", cut(sound.Show(e)), cut(entire(value)), cut(entire(raised)), n, cut(entire(want)), took)
	}
}

// errs asks that an expression comes to an error.
func errs(t testing.TB, e api.Core, args []api.Term, class string, reason api.Term, took int, others ...api.Func) {
	t.Helper()
	value, raised, n := outcome(t, e, args, others...)
	if !alike(raised, tuple(atom(class), reason)) || value.Kind != 0 || n != took {
		t.Errorf("%s: value %s, error %s, took %d; not %s of %s, took %d", cut(sound.Show(e)), cut(entire(value)), cut(entire(raised)), n, class, cut(entire(reason)), took)
	}
}

// story is what a process comes to till it waits or has ended, and how many reductions it took in all, if it is Run with so many at a time and answered each time by the first argument, or by ok.
func story(t testing.TB, x *step.Proc, m *mail.Box, parts func() int) string {
	t.Helper()
	var out []string
	took := 0
	for range 1_000_000 {
		e := x.Run(parts(), m)
		took += e.Took
		e.Took = 0
		switch e.Kind {
		case step.Spent:
			continue
		case step.Asks:
			out = append(out, strings.TrimSuffix(shown(e), " took 0"))
			answers(t, x, append(e.Args, atom("ok"))[0], api.OK)
			continue
		}
		out = append(out, strings.TrimSuffix(shown(e), " took 0"), "took "+strconv.Itoa(took))
		return strings.Join(out, ", ")
	}
	t.Error("without an end")
	return ""
}

func always(n int) func() int { return func() int { return n } }

// tells asks for the story of a body, whose function has these parameters.
func tells(t testing.TB, body api.Core, args []api.Term, want string, others ...api.Func) {
	t.Helper()
	p := program(t, append([]api.Func{function(len(args), body)}, others...)...)
	for _, n := range []int{1_000_000, 1, 2, 3} {
		proc, m := begun(t, p, args...)
		if got := story(t, proc, m, always(n)); got != want {
			t.Errorf("%s by %d: %s, not %s", cut(sound.Show(body)), n, cut(got), cut(want))
		}
	}
}
