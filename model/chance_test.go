package model_test

import (
	"math/rand"
	"slices"
	"sync"
	"testing"

	"pigeonhole/api"
	"pigeonhole/model"
	"pigeonhole/term"
)

// doer is a program whose f does what a list of tuples says, one by one, and prints what comes of each.
const doer = "f(L) -> r(L)." +
	" r([]) -> ok; r([{stop, C, X} | _]) -> case C of error -> error(X); exit -> exit(X); throw -> throw(X); _ -> X end;" +
	" r([X | L]) -> print([self(), X, try d(X) catch C : R -> {C, R} end]), r(L)." +
	" d(self) -> self(); d(make_ref) -> make_ref(); d(now) -> now();" +
	" d({spawn, L}) when is_list(L) -> spawn(fun () -> r(L) end); d({spawn_link, L}) when is_list(L) -> spawn_link(fun () -> r(L) end); d({spawn_monitor, L}) when is_list(L) -> spawn_monitor(fun () -> r(L) end);" +
	" d({spawn, F}) -> spawn(F); d({spawn_link, F}) -> spawn_link(F); d({spawn_monitor, F}) -> spawn_monitor(F);" +
	" d({link, P}) -> link(P); d({unlink, P}) -> unlink(P); d({monitor, P}) -> monitor(P); d({demonitor, R}) -> demonitor(R);" +
	" d({exit, P, T}) -> exit(P, T); d({trap_exit, B}) -> trap_exit(B); d({send, P, T}) -> P ! T;" +
	" d({register, N, P}) -> register(N, P); d({unregister, N}) -> unregister(N); d({whereis, N}) -> whereis(N); d({print, T}) -> print(T);" +
	" d({me, exit, T}) -> exit(self(), T); d({me, send, T}) -> self() ! T; d({me, register, N}) -> register(N, self());" +
	" d(get) -> receive X -> X end; d({get, P}) -> receive P -> P end; d({get, P, T}) -> receive P -> P after T -> late end; d({any, T}) -> receive X -> X after T -> late end;" +
	" d({two, P, Q, T}) -> receive P -> receive Q -> both end after T -> none end; d({two, P, Q, T, U}) -> receive P -> receive Q -> both after U -> one end after T -> none end;" +
	" d({flood, P, N}) -> flood(P, N); d({many, N}) -> many(N); d({great, P, A}) -> exit(P, {A, A})." +
	" flood(P, 0) -> ok; flood(P, N) -> P ! N, flood(P, N - 1)." +
	" many(0) -> ok; many(N) -> spawn(fun () -> receive X -> X after 40 -> ok end end), many(N - 1)."

// maker makes things by chance.
type maker struct{ *rand.Rand }

func pick[T any](m maker, all ...T) T { return all[m.Intn(len(all))] }

func (m maker) pid() api.Term {
	if m.Intn(20) == 0 {
		return pick(m, pid(0), pid(99), pid(1<<40), atom("a"), num(1), ref(1), list())
	}
	return pid(1 + m.Intn(7))
}

func (m maker) name() api.Term {
	if m.Intn(12) == 0 {
		return pick(m, atom("undefined"), atom(""), num(2), pid(1), tuple())
	}
	return pick(m, atom("a"), atom("b"), atom("c"))
}

func (m maker) ref() api.Term {
	if m.Intn(10) == 0 {
		return pick(m, ref(0), ref(99), atom("a"), num(1), pid(1), tuple())
	}
	return ref(1 + m.Intn(6))
}

func (m maker) to() api.Term {
	if m.Intn(3) == 0 {
		return m.name()
	}
	return m.pid()
}

func (m maker) letter() api.Term {
	return pick(m, atom("a"), atom("b"), atom("normal"), num(1), tuple(atom("a"), num(1)), list(num(2), atom("c")))
}

func (m maker) reason() api.Term {
	return pick(m, atom("a"), atom("normal"), atom("kill"), atom("killed"), tuple(atom("b"), num(3)), list())
}

func (m maker) time() api.Term {
	return pick(m, num(0), num(1), num(2), num(3), num(5), num(9), atom("infinity"), pick(m, num(-1), atom("a"), num(1<<31), num(1<<31-1)))
}

func (m maker) fun(deep int) api.Term {
	if m.Intn(8) == 0 || deep > 2 {
		return pick(m, fun(0), fun(1), fun(3), fun(99), fun(9, list()), fun(10, list()), atom("a"), num(1))
	}
	return m.script(deep + 1)
}

// script is what a process of doer is to do.
func (m maker) script(deep int) api.Term {
	var out []api.Term
	for range m.Intn(9) {
		out = append(out, m.deed(deep))
	}
	if m.Intn(5) == 0 {
		out = append(out, tuple(atom("stop"), pick(m, atom("error"), atom("exit"), atom("throw"), atom("value")), m.reason()))
	}
	return list(out...)
}

func (m maker) deed(deep int) api.Term {
	say := func(name string, args ...api.Term) api.Term {
		return tuple(append([]api.Term{atom(name)}, args...)...)
	}
	switch m.Intn(28) {
	case 0:
		return pick(m, atom("self"), atom("make_ref"), atom("now"))
	case 1, 2:
		return say("spawn", m.fun(deep))
	case 3, 4:
		return say("spawn_link", m.fun(deep))
	case 5:
		return say("spawn_monitor", m.fun(deep))
	case 6, 7:
		return say("link", m.pid())
	case 8:
		return say("unlink", m.pid())
	case 9, 10:
		return say("monitor", m.pid())
	case 11:
		return say("demonitor", m.ref())
	case 12, 13:
		return say("exit", m.pid(), m.reason())
	case 14:
		return say("trap_exit", pick(m, atom("true"), atom("true"), atom("false"), m.letter()))
	case 15, 16:
		return say("send", m.to(), m.letter())
	case 17:
		return say("register", m.name(), m.pid())
	case 18:
		return pick(m, say("unregister", m.name()), say("whereis", m.name()))
	case 19:
		return say("me", atom("exit"), m.reason())
	case 20:
		return say("me", atom("send"), m.letter())
	case 21:
		return say("me", atom("register"), m.name())
	case 22:
		return pick(m, atom("get"), say("get", m.letter()))
	case 23:
		return say("get", m.letter(), m.time())
	case 24:
		return say("any", m.time())
	case 25:
		return say("two", m.letter(), m.letter(), m.time())
	case 26:
		return say("two", m.letter(), m.letter(), m.time(), m.time())
	default:
		return m.rare()
	}
}

// rare is what needs many reductions.
func (m maker) rare() api.Term {
	switch m.Intn(12) {
	case 0:
		return tuple(atom("flood"), m.to(), num(pick[int64](m, 1020, 1024, 1025)))
	case 1:
		return tuple(atom("many"), num(pick[int64](m, 5, 28, 40)))
	case 2:
		return tuple(atom("great"), m.pid(), great(2044+m.Intn(4)))
	default:
		return tuple(atom("print"), m.letter())
	}
}

func (m maker) step() api.Step {
	k := m.Intn(40) - 8
	switch m.Intn(30) {
	case 0:
		return pick(m, kill(m.Intn(9)), kill(pick(m, extremes()...)))
	case 1:
		return collect(m.Intn(9), m.Intn(3)-1)
	case 2, 3, 4, 5, 6:
		return tick(m.Intn(4))
	case 7:
		return tick(pick(m, -1, -5, 1<<40, 1<<40+1, 1<<20))
	case 8:
		return slice(pick(m, extremes()...), pick(m, -1, 0, 1, 9, 20_000))
	case 9:
		return api.Step{Kind: api.StepKind(m.Intn(7)), K: k, N: m.Intn(20)}
	default:
		return slice(k, pick(m, 1, 2, 3, 5, 9, 30, 200))
	}
}

// both are a world and its twin, of which the same is asked.
type both struct {
	*model.World
	twin       *twin
	out, ended int // how much of what both tell was held against each other already
}

func newBoth(t *testing.T, p api.Program, fuel int, reached map[string]int) *both {
	t.Helper()
	return &both{World: of(t, p, fuel), twin: newTwin(p, fuel, reached)}
}

// start and do have both do the same, and tell what is not the same then.
func (b *both) start(f string, args ...api.Term) string {
	if got, want := b.Start(f, args), b.twin.Start(f, args); got != want {
		return "Start of " + f + " is an error, or another one"
	}
	return b.differ()
}

func (b *both) do(x api.Step) string {
	if got, want := b.Do(x), b.twin.Do(x); got != want {
		return "Do is an error, or another one"
	}
	return b.differ()
}

func (b *both) differ() string {
	got, want := b.See(), b.twin.See()
	if !slices.Equal(b.Ready(), b.twin.Ready()) {
		return "ready are others"
	}
	if len(got.Out) < b.out || len(want.Out) < b.out || len(got.Ended) < b.ended || len(want.Ended) < b.ended {
		return "less is seen than before"
	}
	out, ended := len(got.Out), len(got.Ended)
	got.Out, got.Ended = got.Out[b.out:], got.Ended[b.ended:]
	want.Out, want.Ended = want.Out[b.out:], want.Ended[b.ended:]
	b.out, b.ended = out, ended
	return b.unlike(got, want)
}

func (b *both) unlike(got, want api.Seen) string {
	if got, want := shown(got), shown(want); got != want {
		return "seen is " + cut(got) + "\nnot " + cut(want)
	}
	return ""
}

// lives has both live by chance, and tells what is not the same at last.
func (b *both) lives(m maker) string {
	for range 20 + m.Intn(60) {
		wrong := ""
		switch {
		case len(b.twin.all) > 0 && m.Intn(8) > 0:
			wrong = b.do(m.step())
		case m.Intn(30) > 0:
			wrong = b.start("f", m.script(0))
		default:
			wrong = b.start(pick(m, "f", "r", "none", ""), pick(m, nil, []api.Term{{}}, []api.Term{list(), list()}, []api.Term{list()})...)
		}
		if wrong != "" {
			return wrong
		}
	}
	return b.unlike(b.See(), b.twin.See())
}

// crowd has both live by chance where boxes are full, letters too great, and many are linked with one another.
func (b *both) crowd(m maker) string {
	for range 5 {
		deeds := []api.Term{tuple(atom("trap_exit"), pick(m, atom("true"), atom("false")))}
		for range m.Intn(4) {
			deeds = append(deeds, tuple(pick(m, atom("link"), atom("monitor")), pid(1+m.Intn(5))))
		}
		if m.Intn(2) == 0 {
			deeds = append(deeds, tuple(atom("flood"), pid(1+m.Intn(5)), num(int64(1020+m.Intn(6)))))
		}
		if wrong := b.start("f", list(append(deeds, tuple(atom("get"), atom("never")))...)); wrong != "" {
			return wrong
		}
	}
	for i := range 10 {
		if wrong := b.do(slice(i, pick(m, 30, 6000))); wrong != "" {
			return wrong
		}
	}
	for range 4 {
		deed := pick(m, m.rare(), tuple(atom("exit"), m.pid(), m.reason()), tuple(atom("great"), m.pid(), great(2044+m.Intn(4))))
		if wrong := b.start("f", list(deed, m.deed(0))) + b.do(slice(-1, 6000)) + b.do(m.step()); wrong != "" {
			return wrong
		}
	}
	return b.unlike(b.See(), b.twin.See())
}

// P17.1 to P17.4, P4: worlds by chance are as the chapter, written once more, has them.
func TestByChance(t *testing.T) {
	p := source(t, doer)
	const parts = 8
	var reached [parts]map[string]int
	var all sync.WaitGroup
	for part := range parts {
		reached[part] = map[string]int{}
		all.Go(func() {
			for seed := part; seed < 1000; seed += parts {
				m := maker{rand.New(rand.NewSource(int64(seed)))}
				b := newBoth(t, p, pick(m, enough, enough, 3000, 100), reached[part])
				if wrong := b.lives(m); wrong != "" {
					t.Errorf("%d: %s", seed, wrong)
				}
				if seed/parts%8 > 0 { // crowds want many reductions
					continue
				}
				b = newBoth(t, p, pick(m, enough, enough, enough, 9000), reached[part])
				if wrong := b.crowd(m); wrong != "" {
					t.Errorf("%d, a crowd: %s", seed, wrong)
				}
			}
		})
	}
	all.Wait()
	times := map[string]int{}
	for _, r := range reached {
		for what, n := range r {
			times[what] += n
		}
	}
	for _, what := range []string{
		"self ", "make_ref ", "now ", "print ", "spawn ", "spawn badarg", "spawn system_limit", "spawn_link ", "spawn_link badarg", "spawn_link system_limit", "spawn_monitor ", "spawn_monitor badarg",
		"link ", "link badarg", "link noproc", "unlink ", "unlink badarg", "monitor ", "monitor badarg", "monitor of none", "demonitor ", "demonitor badarg", "exit ", "exit badarg", "trap_exit ", "trap_exit badarg",
		"! ", "! badarg", "register ", "register badarg", "unregister ", "unregister badarg", "whereis ", "whereis badarg",
		"over", "over of one that is ready", "woken in vain", "ended by what it asked", "down", "signal to none", "signal to one that traps", "signal that ends", "box full", "letter too great",
	} {
		if times[what] < 3 {
			t.Errorf("%s: %d times", what, times[what])
		}
	}
	t.Log(times)
}

// P17.4, P5: processes by chance, each of which runs alone: however its reductions are parted, it comes to the same.
func TestSlicesByChance(t *testing.T) {
	p := source(t, doer)
	m := maker{rand.New(rand.NewSource(3))}
	for range 300 {
		script, fuel := m.script(0), pick(m, 2000, 2000, 30)
		want := ""
		for name, n := range partings(m.Rand) {
			w := of(t, p, fuel)
			starts(t, w, "f", []api.Term{script}, api.OK)
			for i := 0; w.See().Verdict == 4 && w.Ready()[0] == 1; i++ {
				does(t, w, api.OK, slice(0, n(i)))
			}
			got := shown(w.See())
			if want == "" {
				want = got
			}
			if got != want {
				t.Errorf("%s of %s:\n%s, and\n%s", name, cut(entire(script)), cut(got), cut(want))
			}
		}
	}
}

// P17.4, P4: letters from one to another come in their order, however slices are cut.
func TestLettersInOrder(t *testing.T) {
	p := source(t, "f() -> register(p, self()), l(). l() -> receive {S, X} -> print({S, X}), l() end. s(N) -> s(1, N). s(N, M) when N > M -> ok; s(N, M) -> p ! {self(), N}, s(N + 1, M).")
	for seed := range int64(60) {
		r := rand.New(rand.NewSource(seed))
		w := of(t, p, enough)
		starts(t, w, "f", nil, api.OK)
		does(t, w, api.OK, slice(0, 99))
		for range 4 {
			starts(t, w, "s", []api.Term{num(50)}, api.OK)
		}
		for len(w.Ready()) > 0 {
			does(t, w, api.OK, slice(r.Int(), r.Intn(20)))
		}
		next := map[int]int64{}
		for _, x := range w.See().Out {
			from := x.Items[0].Num
			next[from]++
			if entire(x.Items[1]) != entire(num(next[from])) {
				t.Fatalf("of %d the letter %s comes in the place %d", from, entire(x.Items[1]), next[from])
			}
		}
		if len(next) != 4 || next[2]+next[3]+next[4]+next[5] != 200 {
			t.Error("letters:", next)
		}
	}
}

// What the world answers: each name with each kind of term in each place, as the chapter has it.
func TestEachKind(t *testing.T) {
	arities := map[string]int{
		"self": 0, "make_ref": 0, "now": 0, "print": 1, "spawn": 1, "spawn_link": 1, "spawn_monitor": 1, "link": 1, "unlink": 1, "monitor": 1, "demonitor": 1, "trap_exit": 1, "unregister": 1, "whereis": 1, "!": 2, "exit": 2, "register": 2,
	}
	for name, arity := range arities {
		call := []string{name + "()", name + "(hd(X))", name + "(hd(X), hd(tl(X)))"}[arity]
		if name == "!" {
			call = "hd(X) ! hd(tl(X))"
		}
		t.Run(name, func(t *testing.T) {
			t.Parallel()
			for _, whose := range []string{"a", "''"} {
				p := source(t, asker+"name() -> "+whose+". h(X) -> "+call+".")
				for _, args := range argumentRows(arity) {
					if wrong := asks(newBoth(t, p, enough, map[string]int{}), args); wrong != "" {
						t.Fatalf("%s of %s: %s", name, entire(args), wrong)
					}
				}
			}
		})
	}
}

// argumentRows are lists of so many terms, of each kind in each place.
func argumentRows(arity int) (rows []api.Term) {
	switch arity {
	case 0:
		rows = append(rows, list())
	case 1:
		for _, x := range append(kinds(), great(4000)) {
			rows = append(rows, list(x))
		}
	default:
		for _, x := range kinds() {
			for _, y := range kinds() {
				rows = append(rows, list(x, y))
			}
		}
	}
	return slices.DeleteFunc(rows, func(x api.Term) bool { return !term.Right(x) }) // of the greatest one
}

// asker is a program of whose processes the first one waits, traps, and has a name; the second one ends; the third one, which is linked with the first one, and watches it, asks what h does of a list.
const asker = "w() -> register(name(), self()), trap_exit(true), v(). v() -> receive X -> print({self(), X}), v() end. e() -> ok." +
	" f(X) -> spawn_monitor(fun e/0), P = whereis(name()), link(P), monitor(P), print(try h(X) catch C : R -> {C, R} end), receive Y -> print([Y]) after 9 -> ok end. "

// asks has both do so, and tells what is not the same.
func asks(b *both, args api.Term) string {
	wrong := b.start("w") + b.start("e") + b.do(slice(0, 99)) + b.do(slice(0, 99)) + b.start("f", args)
	for _, x := range []api.Step{slice(0, 99), slice(0, 99), slice(1, 99), slice(0, 99), tick(9), slice(0, 99), slice(0, 99), slice(0, 99), kill(1), slice(0, 99)} {
		wrong += b.do(x)
	}
	return wrong
}
