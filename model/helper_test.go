package model_test

import (
	"slices"
	"strconv"
	"strings"
	"testing"

	"pigeonhole/api"
	"pigeonhole/core"
	"pigeonhole/model"
	"pigeonhole/parse"
	"pigeonhole/term"
	"pigeonhole/whole"
)

// enough is fuel for what is no test of fuel.
const enough = 1 << 30

func num(n int64) api.Term { return whole.Of(n) }

func atom(s string) api.Term { return api.Term{Kind: api.Atom, Text: s} }

func ref(n int) api.Term { return api.Term{Kind: api.Ref, Num: n} }

func pid(n int) api.Term { return api.Term{Kind: api.Pid, Num: n} }

func fun(n int, items ...api.Term) api.Term { return api.Term{Kind: api.Fun, Num: n, Items: items} }

func tuple(items ...api.Term) api.Term { return api.Term{Kind: api.Tuple, Items: items} }

func list(items ...api.Term) api.Term { return api.Term{Kind: api.List, Items: items} }

// great is a tuple of that size.
func great(size int) api.Term { return tuple(slices.Repeat([]api.Term{atom("a")}, size-1)...) }

// kinds are right terms of each kind.
func kinds() []api.Term {
	return []api.Term{
		num(0), num(1), num(-1), num(1 << 40), {Kind: api.Int, Limbs: slices.Repeat([]uint32{^uint32(0)}, api.MaxLimbs)},
		atom(""), atom("a"), atom("true"), atom("false"), atom("undefined"), atom("kill"), atom("normal"), atom(strings.Repeat("\xff", api.MaxName)),
		ref(0), ref(1), ref(1 << 40), pid(0), pid(1), pid(2), pid(3), pid(1 << 40),
		fun(0), fun(1), fun(2), fun(3), fun(4), fun(1, num(1)), fun(3, atom("x")), fun(4, atom("x")), fun(4, atom("x"), atom("y")), fun(9), fun(api.MaxCode),
		tuple(), tuple(pid(1), ref(1)), list(), list(pid(1)), {Kind: api.List, Items: []api.Term{atom("h")}, Tail: []api.Term{atom("t")}},
		great(api.MaxSize),
	}
}

// flaws are terms that are not right.
func flaws() []api.Term {
	loop := make([]api.Term, 1)
	loop[0] = api.Term{Kind: api.Tuple, Items: loop}
	double := tuple()
	for range 200 {
		double = tuple(double, double)
	}
	deep := atom("a")
	for range 100_000 {
		deep = tuple(deep)
	}
	return []api.Term{
		{}, {Kind: 8}, {Kind: api.Int, Neg: true}, {Kind: api.Int, Limbs: []uint32{0}}, atom(strings.Repeat("a", api.MaxName+1)), {Kind: api.Atom, Text: "a", Num: 1},
		ref(-1), pid(1<<40 + 1), fun(-1), fun(api.MaxCode + 1), tuple(api.Term{}), {Kind: api.List, Tail: []api.Term{atom("a")}},
		great(api.MaxSize + 1), loop[0], double, deep,
	}
}

// source is the program that a text tells.
func source(t testing.TB, src string) api.Program {
	t.Helper()
	m, fault := parse.Module(src)
	if fault.Err != api.OK {
		t.Fatal(src, fault)
	}
	p, e := core.Make(m)
	if e != api.OK {
		t.Fatal(src, e)
	}
	return p
}

// of is a world of a program, with that fuel.
func of(t testing.TB, p api.Program, fuel int) *model.World {
	t.Helper()
	w := model.New(p, fuel)
	if w == nil {
		t.Fatal("no world")
	}
	return w
}

// begun is a world of a source whose f was started with these.
func begun(t testing.TB, src string, args ...api.Term) *model.World {
	t.Helper()
	w := of(t, source(t, src), enough)
	starts(t, w, "f", args, api.OK)
	return w
}

func slice(k, n int) api.Step { return api.Step{Kind: api.StepSlice, K: k, N: n} }

func tick(n int) api.Step { return api.Step{Kind: api.StepTick, N: n} }

func kill(pid int) api.Step { return api.Step{Kind: api.StepKill, K: pid} }

func collect(pid, n int) api.Step { return api.Step{Kind: api.StepCollect, K: pid, N: n} }

func starts(t testing.TB, w *model.World, f string, args []api.Term, want api.Errno) {
	t.Helper()
	if got := w.Start(f, args); got != want {
		t.Errorf("Start(%s, %d arguments): %d, not %d", f, len(args), got, want)
	}
}

func does(t testing.TB, w *model.World, want api.Errno, steps ...api.Step) {
	t.Helper()
	for _, x := range steps {
		if got := w.Do(x); got != want {
			t.Errorf("Do(%v): %d, not %d", x, got, want)
		}
	}
}

// shown is all that is seen: what was printed; who has ended; names; verdict, spent and clock.
func shown(s api.Seen) string {
	var names []string
	for _, n := range s.Names {
		names = append(names, n.Name+"="+strconv.Itoa(n.Pid))
	}
	numbers := "v" + strconv.Itoa(s.Verdict) + " s" + strconv.Itoa(s.Spent) + " c" + strconv.Itoa(s.Clock)
	return strings.Join([]string{tale(s), strings.Join(names, " "), numbers}, "; ")
}

// tale is what was printed, and who has ended.
func tale(s api.Seen) string {
	var out, ended []string
	for _, t := range s.Out {
		out = append(out, entire(t))
	}
	for _, e := range s.Ended {
		ended = append(ended, strconv.Itoa(e.Pid)+" "+entire(e.Reason))
	}
	return strings.Join(out, " ") + "; " + strings.Join(ended, ", ")
}

// entire is all of a term: unlike its text it tells funs with unlike Items from each other.
func entire(t api.Term) string {
	var parts []string
	for _, item := range t.Items {
		parts = append(parts, entire(item))
	}
	for _, item := range t.Tail {
		parts = append(parts, "|"+entire(item))
	}
	inside := strings.Join(parts, ",")
	switch {
	case !term.Right(t):
		return "?"
	case t.Kind == api.Fun:
		return "#" + strconv.Itoa(t.Num) + "(" + inside + ")"
	case t.Kind == api.Tuple:
		return "{" + inside + "}"
	case t.Kind == api.List:
		return "[" + inside + "]"
	default:
		return term.Text(t)
	}
}

// sees asks for all that is seen, as shown has it.
func sees(t testing.TB, w *model.World, want string) {
	t.Helper()
	if got := shown(w.See()); got != want {
		t.Errorf("seen is %s, not %s", cut(got), cut(want))
	}
}

// tells asks for what was printed, and who has ended, as tale has it.
func tells(t testing.TB, w *model.World, want string) {
	t.Helper()
	if got := tale(w.See()); got != want {
		t.Errorf("told is %s, not %s", cut(got), cut(want))
	}
}

func areReady(t testing.TB, w *model.World, want ...int) {
	t.Helper()
	if got := w.Ready(); !slices.Equal(got, want) {
		t.Errorf("ready are %v, not %v", got, want)
	}
}

func cut(s string) string {
	if len(s) > 600 {
		return s[:500] + ".. (" + strconv.Itoa(len(s)) + " bytes)"
	}
	return s
}

// rest has the first one that is ready run, again and again, till nobody is.
func rest(t testing.TB, w *model.World) {
	t.Helper()
	for range 100_000 {
		if len(w.Ready()) == 0 {
			return
		}
		does(t, w, api.OK, slice(0, 1000))
	}
	t.Error("without an end")
}

// rests asks for the tale of a source, of which the first one that is ready runs, till nobody is.
func rests(t testing.TB, src, want string, args ...api.Term) {
	t.Helper()
	w := begun(t, src, args...)
	rest(t, w)
	if got := tale(w.See()); got != want {
		t.Errorf("%s tells %s, not %s", src, cut(got), cut(want))
	}
}
