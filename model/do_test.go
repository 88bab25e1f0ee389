package model_test

import (
	"math"
	"testing"

	"pigeonhole/api"
)

// nobody are pids of none, where there were three processes.
func nobody() []int {
	return []int{0, -1, -3, 4, 5, api.MaxProcs, api.MaxProcs + 1, 1 << 32, math.MinInt, math.MinInt32, math.MaxInt}
}

// P17.2: ErrArg of another Kind.
func TestDoKind(t *testing.T) {
	for _, w := range []*struct{ src string }{{"f() -> print(a)."}, {"f() -> receive X -> X after 1 -> late end."}} {
		w := begun(t, w.src)
		for kind := range 256 {
			if kind >= int(api.StepSlice) && kind <= int(api.StepCollect) {
				continue
			}
			for _, k := range append(nobody(), 1) {
				does(t, w, api.ErrArg, api.Step{Kind: api.StepKind(kind), K: k, N: k}, api.Step{Kind: api.StepKind(kind), K: 1, N: 1})
			}
		}
		sees(t, w, "; ; ; v4 s0 c0")
	}
	does(t, of(t, api.Program{}, 0), api.ErrArg, api.Step{}, api.Step{Kind: 5})
}

// P17.2: ErrNone of StepKill and StepCollect, unless the process K is alive.
func TestDoNone(t *testing.T) {
	p := source(t, "f() -> print(self()), receive X -> X end.")
	w := of(t, p, enough)
	for _, pid := range append(nobody(), 1) {
		does(t, w, api.ErrNone, kill(pid), collect(pid, 0), collect(pid, 1))
	}
	for range 3 {
		starts(t, w, "f", nil, api.OK)
	}
	does(t, w, api.OK, slice(1, 9), collect(2, 0), kill(2), slice(1, 1))
	for _, pid := range append(nobody(), 2) {
		for _, n := range []int{0, 1, -1, math.MaxInt, math.MinInt} {
			does(t, w, api.ErrNone, collect(pid, n), api.Step{Kind: api.StepKill, K: pid, N: n})
		}
	}
	sees(t, w, "<2>; 2 killed; ; v4 s4 c0")
	areReady(t, w, 1, 3)
}

// P17.2: StepKill: the process ends with killed, whatever it does, and whether it traps.
func TestKill(t *testing.T) {
	for _, src := range []string{
		"f() -> f().",
		"f() -> receive X -> X end.",
		"f() -> receive X -> X after 5 -> print(late) end.",
		"f() -> trap_exit(true), receive X -> print(X) end.",
		"f() -> trap_exit(true), f().",
		"f() -> self() ! a, self() ! b, f().",
		"f() -> try f() + 1 catch C : R -> print({C, R}) end.",
		"f() -> try receive X -> X end catch C : R -> print({C, R}) end.",
	} {
		for _, n := range []int{0, 1, 2, 50} {
			w := begun(t, src)
			does(t, w, api.OK, slice(0, n), api.Step{Kind: api.StepKill, K: 1, N: n})
			tells(t, w, "; 1 killed")
			areReady(t, w)
			does(t, w, api.ErrNone, kill(1), collect(1, n))
			does(t, w, api.OK, tick(5), slice(0, 9))
			tells(t, w, "; 1 killed")
			if v := w.See().Verdict; v != 1 {
				t.Error(src, "verdict", v)
			}
		}
	}
}

// P17.2: who is killed tells those that it is linked with, and those that watch it; its names are gone. It needs no fuel.
func TestKillTells(t *testing.T) {
	p := source(t, "f() -> register(p, self()), g(), receive X -> X end. g() -> spawn_link(fun () -> trap_exit(true), receive X -> print({trapping, X}) end end), spawn_link(fun () -> receive X -> print(X) end end), P = self(), spawn(fun () -> monitor(P), receive X -> print({watching, X}) end end).")
	w := of(t, p, 12)
	starts(t, w, "f", nil, api.OK)
	does(t, w, api.OK, slice(0, 99), slice(0, 99), slice(0, 99), slice(0, 99))
	sees(t, w, "; ; p=1; v3 s12 c0")
	areReady(t, w, 4)
	w = of(t, p, 14)
	starts(t, w, "f", nil, api.OK)
	does(t, w, api.OK, slice(0, 99), slice(0, 99), slice(0, 99), slice(0, 99))
	sees(t, w, "; ; p=1; v2 s13 c0")
	does(t, w, api.OK, kill(1))
	sees(t, w, "; 1 killed, 3 killed; ; v4 s13 c0")
	areReady(t, w, 2, 4)
	does(t, w, api.OK, slice(0, 99), slice(0, 99))
	sees(t, w, "{trapping,{'EXIT',<1>,killed}}; 1 killed, 3 killed, 2 normal; ; v3 s14 c0")
	does(t, w, api.OK, kill(4))
	sees(t, w, "{trapping,{'EXIT',<1>,killed}}; 1 killed, 3 killed, 2 normal, 4 killed; ; v1 s14 c0")
}

// P17.2: StepCollect of one that is alive: nothing.
func TestCollect(t *testing.T) {
	const src = "f() -> register(p, self()), print(make_ref()), receive a -> 1 after 3 -> print([now() | late]) end, f()."
	plain, collected := begun(t, src), begun(t, src)
	for i := range 60 {
		for _, x := range []api.Step{slice(i, 1+i%3), tick(i % 2)} {
			does(t, plain, api.OK, x)
			does(t, collected, api.OK, x)
			if collected.See().Verdict == 1 {
				break
			}
			for _, n := range []int{0, 1, -1, 9, math.MinInt, math.MaxInt} {
				does(t, collected, api.OK, collect(1, n))
			}
			sees(t, collected, shown(plain.See()))
			areReady(t, collected, plain.Ready()...)
		}
	}
	tells(t, plain, "#Ref<1> [4,|late]; 1 badarg")
}
