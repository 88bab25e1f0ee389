package model_test

import (
	"strconv"
	"strings"
	"testing"

	"pigeonhole/api"
)

// Functions that the sources here have in common: c tells a fun's value, or the error that it comes to; g the next letter, or none; w waits for a letter, and prints it; t does so, and traps.
const common = " c(F) -> try F() catch C : R -> {C, R} end." +
	" g() -> receive X -> X after 0 -> none end." +
	" w() -> receive X -> print({self(), X}) end." +
	" t() -> trap_exit(true), w()."

type row struct{ src, want string }

// allRest asks for the tales of sources, of which the first one that is ready runs, till nobody is.
func allRest(t *testing.T, rows ...row) {
	t.Helper()
	for _, x := range rows {
		rests(t, x.src+common, x.want)
	}
}

// wrongs are so many errors of badarg, in a list.
func wrongs(n int) string {
	return "[" + strings.TrimSuffix(strings.Repeat("{error,badarg},", n), ",") + "]"
}

// What the world answers: self, make_ref, now, print.
func TestOwn(t *testing.T) {
	allRest(t,
		row{"f() -> print(self()), spawn(fun () -> print(self()) end), spawn(fun () -> print([self(), self()]) end).", "<1> <2> [<3>,<3>]; 1 normal, 2 normal, 3 normal"},
		row{"f() -> print(make_ref()), spawn(fun () -> print(make_ref()) end), print([make_ref(), make_ref()]).", "#Ref<1> [#Ref<2>,#Ref<3>] #Ref<4>; 1 normal, 2 normal"},
		row{"f() -> print(print({a, [1]})).", "{a,[1]} ok; 1 normal"},
		row{"f() -> print(now()), print(is_integer(now())).", "0 true; 1 normal"},
	)
	w := begun(t, "f() -> print(now()), f().")
	for _, n := range []int{1, 0, 2, 1<<32 - 3, 1 << 39} {
		does(t, w, api.OK, tick(n), slice(0, 2), slice(0, 1))
	}
	tells(t, w, "1 1 3 4294967296 554050781184; ")
}

// What the world answers: spawn.
func TestSpawn(t *testing.T) {
	allRest(t,
		row{"f() -> print(spawn(fun () -> print(a) end)), print(b).", "<2> b a; 1 normal, 2 normal"},
		row{"f() -> X = a, Y = b, print(spawn(fun () -> print({X, Y, self()}) end)).", "<2> {a,b,<2>}; 1 normal, 2 normal"},
		row{"f() -> print(spawn(fun h/0)). h() -> print(h).", "<2> h; 1 normal, 2 normal"},
		row{"f() -> spawn(fun () -> spawn(fun () -> print(self()) end), print(self()) end), print(self()).", "<1> <2> <3>; 1 normal, 2 normal, 3 normal"},
		row{"f() -> Y = 1, print([c(fun () -> spawn(X) end) || X <- [a, 1, self(), {}, [], make_ref(), fun c/1, fun (Z) -> Z + Y end]]).", wrongs(8) + "; 1 normal"},
		row{"f() -> spawn(a), print(b).", "; 1 badarg"},
		row{"f() -> spawn(fun () -> exit(a) end), receive X -> print(X) end.", "; 2 a"}, // they are not linked
		row{"f() -> spawn(fun () -> receive X -> X end end), exit(a).", "; 1 a"},
	)
}

// What the world answers: which funs there are processes of, whoever made them.
func TestSpawnFuns(t *testing.T) {
	// Behind the functions 0 to 4 stand the helpers of h and i: 5 and 6.
	const src = "f(F) -> print(try spawn(F) catch C : R -> {C, R} end). g() -> print(g). h(X) -> fun () -> print(X) end. i(X) -> fun (Y) -> X + Y end. j(X, Y) -> [X | Y]."
	whole := map[string]string{"1 0": "g", "5 1": "a"}
	for num := range 9 {
		for n := range 4 {
			items := make([]api.Term, n)
			for i := range items {
				items[i] = atom("a")
			}
			want := "{error,badarg}; 1 normal"
			if out, ok := whole[strconv.Itoa(num)+" "+strconv.Itoa(n)]; ok {
				want = "<2> " + out + "; 1 normal, 2 normal"
			}
			rests(t, src, want, fun(num, items...))
		}
	}
	rests(t, src, "{error,badarg}; 1 normal", fun(api.MaxCode))
}

// What the world answers: spawn_link, spawn_monitor.
func TestSpawnTied(t *testing.T) {
	allRest(t,
		row{"f() -> print(spawn_link(fun () -> exit(a) end)), w().", "<2>; 2 a, 1 a"},
		row{"f() -> print(spawn_link(fun () -> 1 end)), w().", "<2>; 2 normal"}, // the first one waits on
		row{"f() -> spawn_link(fun w/0), exit(b).", "; 1 b, 2 b"},
		row{"f() -> spawn_link(fun w/0).", "; 1 normal"},
		row{"f() -> trap_exit(true), print(spawn_link(fun () -> ok end)), w().", "<2> {<1>,{'EXIT',<2>,normal}}; 2 normal, 1 normal"},
		row{"f() -> print(spawn_monitor(fun () -> exit(a) end)), w().", "{<2>,#Ref<1>} {<1>,{'DOWN',#Ref<1>,process,<2>,a}}; 2 a, 1 normal"},
		row{"f() -> make_ref(), print(spawn_monitor(fun () -> ok end)), w().", "{<2>,#Ref<2>} {<1>,{'DOWN',#Ref<2>,process,<2>,normal}}; 2 normal, 1 normal"},
		row{"f() -> spawn_monitor(fun w/0), exit(a).", "; 1 a"}, // who is watched is told nothing
		row{"f() -> {P, R} = spawn_monitor(fun () -> exit(a) end), demonitor(R), w().", "; 2 a"},
		row{"f() -> P = spawn_link(fun () -> exit(a) end), unlink(P), w().", "; 2 a"},
	)
	for _, name := range []string{"spawn_link", "spawn_monitor"} {
		rests(t, "f() -> Y = 1, print([c(fun () -> "+name+"(X) end) || X <- [a, 1, self(), {}, [], make_ref(), fun c/1, fun (Z) -> Z + Y end]])."+common, wrongs(8)+"; 1 normal")
	}
	// What is refused leaves nothing behind: no process, no reference.
	allRest(t, row{"f() -> print([c(fun () -> spawn_monitor(a) end), c(fun () -> spawn_link(a) end), spawn_monitor(fun () -> ok end)]).", "[{error,badarg},{error,badarg},{<2>,#Ref<1>}]; 1 normal, 2 normal"})
}

// What the world answers: link, unlink.
func TestLink(t *testing.T) {
	allRest(t,
		row{"f() -> P = spawn(fun w/0), print([link(P), link(P)]), exit(a).", "[true,true]; 1 a, 2 a"},
		row{"f() -> P = spawn(fun w/0), link(P), exit(P, b), print(no).", "; 2 b, 1 b"}, // the other way, too
		row{"f() -> print(link(self())), exit(a).", "true; 1 a"},
		row{"f() -> P = spawn(fun () -> ok end), exit(P, kill), print(c(fun () -> link(P) end)), link(P).", "{error,noproc}; 2 killed, 1 noproc"},
		row{"f() -> P = spawn(fun w/0), print([unlink(P), link(P), unlink(P), unlink(P)]), exit(a).", "[true,true,true,true]; 1 a"},
		row{"f() -> P = spawn_link(fun w/0), print(unlink(P)), exit(P, b), print(here).", "true here; 2 b, 1 normal"},
		row{"f() -> S = self(), spawn_link(fun () -> print(unlink(S)), exit(b) end), w().", "true; 2 b"}, // each of the two may
		row{"f() -> P = spawn_link(fun w/0), Q = spawn_link(fun w/0), unlink(P), exit(P, a), exit(Q, b).", "; 2 a, 3 b, 1 b"},
		row{"f() -> P = spawn(fun () -> ok end), exit(P, kill), print([unlink(P), unlink(self())]).", "[true,true]; 2 killed, 1 normal"},
		row{"f() -> print([c(fun () -> link(X) end) || X <- [a, 1, make_ref(), {}, [], [self()]]]).", wrongs(6) + "; 1 normal"},
		row{"f() -> print([c(fun () -> unlink(X) end) || X <- [a, 1, make_ref(), {}, [], [self()]]]).", wrongs(6) + "; 1 normal"},
	)
	// Of processes that there are not yet, or never; what is made later is not linked for that.
	for _, n := range []int{0, 2, 3, 99, 1 << 40} {
		rests(t, "f(P) -> print([c(fun () -> link(P) end), unlink(P)]), spawn(fun () -> spawn(fun () -> exit(a) end), exit(b) end), w()."+common, "[{error,noproc},true]; 2 b, 3 a", pid(n))
	}
}

// What the world answers: monitor, demonitor.
func TestMonitor(t *testing.T) {
	allRest(t,
		row{"f() -> P = spawn(fun w/0), print([monitor(P), monitor(P)]), exit(P, a), print([g(), g(), g()]).", "[#Ref<1>,#Ref<2>] [{'DOWN',#Ref<1>,process,<2>,a},{'DOWN',#Ref<2>,process,<2>,a},none]; 2 a, 1 normal"},
		row{"f() -> P = spawn(fun w/0), exit(P, a), print([monitor(P), g(), g()]).", "[#Ref<1>,{'DOWN',#Ref<1>,process,<2>,noproc},none]; 2 a, 1 normal"},
		row{"f() -> make_ref(), print([monitor(self()), g()]), exit(a).", "[#Ref<2>,none]; 1 a"},
		row{"f() -> P = spawn(fun w/0), monitor(P), exit(b).", "; 1 b"}, // it goes one way
		row{"f() -> P = spawn(fun w/0), R = monitor(P), monitor(P), print([demonitor(R), demonitor(R)]), exit(P, a), print([g(), g()]).", "[true,true] [{'DOWN',#Ref<2>,process,<2>,a},none]; 2 a, 1 normal"},
		row{"f() -> P = spawn(fun w/0), R = monitor(P), exit(P, a), demonitor(R), print(g()).", "{'DOWN',#Ref<1>,process,<2>,a}; 2 a, 1 normal"},                                                                                      // what was told stays told
		row{"f() -> P = spawn(fun w/0), R = monitor(P), S = self(), spawn(fun () -> print(demonitor(R)), S ! go end), receive go -> ok end, exit(P, a), print(g()).", "true {'DOWN',#Ref<1>,process,<2>,a}; 3 normal, 2 a, 1 normal"}, // not its own
		row{"f() -> print([demonitor(make_ref()), make_ref()]).", "[true,#Ref<2>]; 1 normal"},
		row{"f() -> print([c(fun () -> monitor(X) end) || X <- [a, 1, make_ref(), {}, [], [self()]]]), print(make_ref()).", wrongs(6) + " #Ref<2>; 1 normal"}, // none of them took a reference
		row{"f() -> print([c(fun () -> demonitor(X) end) || X <- [a, 1, self(), {}, [], [make_ref()]]]).", wrongs(6) + "; 1 normal"},
	)
	// Of processes that there are not yet, or never.
	for _, n := range []int{0, 2, 99, 1 << 40} {
		p := entire(pid(n))
		rests(t, "f(P) -> print([monitor(P), g(), g()]), spawn(fun () -> exit(a) end), w()."+common, "[#Ref<1>,{'DOWN',#Ref<1>,process,"+p+",noproc},none]; 2 a", pid(n))
	}
	for _, n := range []int{0, 1, 7, 1 << 40} {
		rests(t, "f(R) -> print(demonitor(R)).", "true; 1 normal", ref(n))
	}
}

// What the world answers: exit.
func TestExit(t *testing.T) {
	allRest(t,
		row{"f() -> P = spawn(fun w/0), print(exit(P, {a, [1]})).", "true; 2 {a,[1]}, 1 normal"},
		row{"f() -> P = spawn(fun w/0), print(exit(P, normal)), P ! go.", "true {<2>,go}; 1 normal, 2 normal"},
		row{"f() -> P = spawn(fun w/0), print(exit(P, kill)).", "true; 2 killed, 1 normal"},
		row{"f() -> P = spawn(fun w/0), print([exit(P, a), exit(P, b), exit(P, kill)]).", "[true,true,true]; 2 a, 1 normal"}, // it is not alive any more
		row{"f() -> print(exit(self(), normal)).", "true; 1 normal"},
		row{"f() -> print(exit(self(), a)).", "; 1 a"},
		row{"f() -> print(exit(self(), kill)).", "; 1 killed"},
		row{"f() -> trap_exit(true), print([exit(self(), a), exit(self(), normal)]), print([g(), g(), g()]).", "[true,true] [{'EXIT',<1>,a},{'EXIT',<1>,normal},none]; 1 normal"},
		row{"f() -> trap_exit(true), print(exit(self(), kill)).", "; 1 killed"},
		row{"f() -> P = spawn_link(fun w/0), print(exit(P, a)).", "; 2 a, 1 a"}, // who has ended by it is not answered
		row{"f() -> P = spawn_link(fun w/0), print(exit(P, kill)).", "; 2 killed, 1 killed"},
		row{"f() -> P = spawn(fun t/0), print(exit(P, a)).", "true; 2 a, 1 normal"}, // it does not trap yet
		row{"f() -> spawn(fun t/0), spawn(fun () -> print(exit(whereis(f), normal)) end), register(f, self()), w().", "true; 3 normal"},
		row{"f() -> print([c(fun () -> exit(X, a) end) || X <- [a, 1, make_ref(), {}, [], [self()]]]).", wrongs(6) + "; 1 normal"},
		row{"f() -> register(n, self()), print(c(fun () -> exit(n, a) end)).", "{error,badarg}; 1 normal"},
	)
	for _, n := range []int{0, 2, 99, 1 << 40} {
		rests(t, "f(P) -> print([exit(P, a), exit(P, kill), exit(P, normal)]).", "[true,true,true]; 1 normal", pid(n))
	}
	// To one that traps already: the letter tells from whom.
	for reason, want := range map[string]string{
		"a": " {<1>,{'EXIT',<2>,a}}; 2 normal, 1 normal", "normal": " {<1>,{'EXIT',<2>,normal}}; 2 normal, 1 normal", "{1}": " {<1>,{'EXIT',<2>,{1}}}; 2 normal, 1 normal",
		"killed": " {<1>,{'EXIT',<2>,killed}}; 2 normal, 1 normal", "kill": "; 1 killed, 2 normal",
	} {
		rests(t, "f() -> trap_exit(true), S = self(), spawn(fun () -> print(exit(S, "+reason+")) end), w()."+common, "true"+want)
	}
}

// What the world answers: trap_exit.
func TestTrap(t *testing.T) {
	allRest(t,
		row{"f() -> print([trap_exit(true), trap_exit(true), trap_exit(false), trap_exit(false), trap_exit(true)]).", "[false,true,true,false,false]; 1 normal"},
		row{"f() -> trap_exit(true), spawn(fun () -> print(trap_exit(false)) end), print(trap_exit(true)).", "true false; 1 normal, 2 normal"}, // each one for itself
		row{"f() -> trap_exit(true), trap_exit(false), spawn_link(fun () -> exit(a) end), w().", "; 2 a, 1 a"},
		row{"f() -> trap_exit(true), print([c(fun () -> trap_exit(X) end) || X <- [a, 1, self(), make_ref(), {}, [], [true]]]), print(trap_exit(true)).", wrongs(7) + " true; 1 normal"},
	)
}

// What the world answers: !.
func TestSend(t *testing.T) {
	allRest(t,
		row{"f() -> P = spawn(fun w/0), print(P ! {a, [1]}).", "{a,[1]} {<2>,{a,[1]}}; 1 normal, 2 normal"},
		row{"f() -> print([self() ! a, self() ! b, g(), g(), g()]).", "[a,b,a,b,none]; 1 normal"},
		row{"f() -> register(n, self()), print([n ! a, n ! b, g(), g(), g()]).", "[a,b,a,b,none]; 1 normal"},
		row{"f() -> P = spawn(fun w/0), register(n, P), print(n ! a).", "a {<2>,a}; 1 normal, 2 normal"},
		row{"f() -> P = spawn(fun w/0), register(n, P), exit(P, a), print([P ! b, c(fun () -> n ! b end)]).", "[b,{error,badarg}]; 2 a, 1 normal"},
		row{"f() -> register(n, self()), unregister(n), print(c(fun () -> n ! b end)).", "{error,badarg}; 1 normal"},
		row{"f() -> print([c(fun () -> X ! a end) || X <- [a, undefined, 1, make_ref(), {}, [], [self()], fun f/0]]).", wrongs(8) + "; 1 normal"},
		row{"f() -> q ! a, print(b).", "; 1 badarg"},
	)
	for _, n := range []int{0, 2, 99, 1 << 40} {
		rests(t, "f(P) -> print(P ! a), spawn(fun w/0)."+common, "a; 1 normal", pid(n))
	}
	for _, x := range kinds() {
		if len(x.Items) > 100 {
			continue
		}
		rests(t, "f(X) -> P = spawn(fun w/0), print([P ! X])."+common, "["+entire(x)+"] {<2>,"+entire(x)+"}; 1 normal, 2 normal", x)
	}
	// The greatest one is sent as it is.
	rests(t, "f(X) -> P = spawn(fun () -> receive Y -> print(Y) end end), print(P ! X).", entire(great(api.MaxSize))+" "+entire(great(api.MaxSize))+"; 1 normal, 2 normal", great(api.MaxSize))
}

// What the world answers: register, unregister, whereis.
func TestNames(t *testing.T) {
	allRest(t,
		row{"f() -> print([register(a, self()), whereis(a), unregister(a), whereis(a), register(b, self()), whereis(b)]).", "[true,<1>,true,undefined,true,<1>]; 1 normal"},
		row{"f() -> P = spawn(fun w/0), print([register(a, P), whereis(a), register(b, self()), whereis(b)]).", "[true,<2>,true,<1>]; 1 normal"},
		row{"f() -> register(a, self()), print([c(fun () -> register(X, self()) end) || X <- [a, b]]), print([whereis(a), whereis(b)]).", wrongs(2) + " [<1>,undefined]; 1 normal"},
		row{"f() -> register(a, self()), P = spawn(fun w/0), print([c(fun () -> register(a, P) end), register(b, P), whereis(a), whereis(b)]).", "[{error,badarg},true,<1>,<2>]; 1 normal"},
		row{"f() -> P = spawn(fun w/0), exit(P, x), print([c(fun () -> register(a, P) end), whereis(a)]).", "[{error,badarg},undefined]; 2 x, 1 normal"},
		row{"f() -> print([c(fun () -> register(X, self()) end) || X <- [undefined, 1, self(), make_ref(), {}, [], [97]]]), print(register('', self())).", wrongs(7) + " true; 1 normal"},
		row{"f() -> print([c(fun () -> register(a, X) end) || X <- [a, 1, make_ref(), {}, [], [self()]]]), print(whereis(a)).", wrongs(6) + " undefined; 1 normal"},
		row{"f() -> register(a, self()), print([c(fun () -> unregister(X) end) || X <- [b, undefined, 1, self(), make_ref(), {}, [], [97]]]), print(whereis(a)).", wrongs(8) + " <1>; 1 normal"},
		row{"f() -> register(a, self()), print([c(fun () -> whereis(X) end) || X <- [1, self(), make_ref(), {}, [], [97]]]).", wrongs(6) + "; 1 normal"},
		row{"f() -> print([whereis(a), whereis(undefined), whereis('')]).", "[undefined,undefined,undefined]; 1 normal"},
		row{"f() -> register(a, self()), spawn(fun () -> print([unregister(a), register(a, self()), whereis(a)]) end), w().", "[true,true,<2>]; 2 normal"}, // anybody may take it
		row{"f() -> P = spawn(fun w/0), register(a, P), exit(P, kill), print([whereis(a), register(a, self()), whereis(a)]).", "[undefined,true,<1>]; 2 killed, 1 normal"},
		row{"f() -> P = spawn(fun () -> register(a, self()) end), w().", "; 2 normal"},
	)
	for _, n := range []int{0, 2, 99, 1 << 40} {
		rests(t, "f(P) -> print(c(fun () -> register(a, P) end)), print(whereis(a))."+common, "{error,badarg} undefined; 1 normal", pid(n))
	}
	// What is no atom has no text: nor is it the name that has none.
	allRest(t,
		row{"f() -> register('', self()), print([c(fun () -> X ! a end) || X <- [1, make_ref(), {}, [], fun f/0]]), print(['' ! b, g(), g()]).", wrongs(5) + " [b,b,none]; 1 normal"},
		row{"f() -> register('', self()), print([c(fun () -> unregister(X) end) || X <- [1, self(), make_ref(), {}, [], fun f/0]]), print([whereis(''), unregister(''), whereis('')]).", wrongs(6) + " [<1>,true,undefined]; 1 normal"},
		row{"f() -> register('', self()), print([c(fun () -> whereis(X) end) || X <- [1, self(), make_ref(), {}, [], fun f/0]]).", wrongs(6) + "; 1 normal"},
	)
	// The names of one that has ended are seen no more, however it has.
	for _, how := range []string{"ok", "exit(a)", "exit(self(), kill)", "1 + a"} {
		w := begun(t, "f() -> register(a, self()), print(whereis(a)), "+how+".")
		does(t, w, api.OK, slice(0, 3))
		sees(t, w, "; ; a=1; v4 s3 c0")
		does(t, w, api.OK, slice(0, 9))
		if len(w.See().Names) != 0 || w.See().Verdict != 1 {
			t.Error(how, shown(w.See()))
		}
	}
}

// What asks is answered by the world alone where it is of Kind World: exit of one argument, say, is not.
func TestNotAsked(t *testing.T) {
	allRest(t,
		row{"f() -> print(c(fun () -> exit(kill) end)), exit({self()}).", "{exit,kill}; 1 {<1>}"},
		row{"f() -> print(c(fun () -> throw(a) end)), error(b).", "{throw,a}; 1 b"},
	)
}
