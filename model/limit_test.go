package model_test

import (
	"strconv"
	"strings"
	"testing"

	"pigeonhole/api"
)

// MaxMessages letters wait for a process; by one more it ends, and who has sent that goes on.
func TestFullBox(t *testing.T) {
	const src = "f(N) -> register(p, self()), receive go -> l(0) end. l(N) -> receive X -> l(N + 1) after 0 -> print(N) end. s(0) -> print(sent); s(N) -> p ! N, s(N - 1). m() -> monitor(whereis(p)), link(whereis(p)), trap_exit(true), receive A -> receive B -> print([A, B]) end end."
	for _, c := range []struct {
		n    int64
		want string
	}{
		{1, "sent; 2 normal"}, {api.MaxMessages - 1, "sent; 2 normal"}, {api.MaxMessages, "sent; 2 normal"},
		{api.MaxMessages + 1, "sent; 1 system_limit, 2 normal"},
		{api.MaxMessages + 2, "; 1 system_limit, 2 badarg"}, // the name is gone, too
	} {
		w := begun(t, src, num(0))
		rest(t, w)
		starts(t, w, "s", []api.Term{num(c.n)}, api.OK)
		does(t, w, api.OK, slice(0, 1))
		for len(w.Ready()) > 0 {
			does(t, w, api.OK, slice(-1, 1000)) // the one that sends, as long as it is there
			if c := w.See().Ended; len(c) > 0 && c[len(c)-1].Pid == 2 {
				break
			}
		}
		tells(t, w, c.want)
		if c.n == api.MaxMessages {
			areReady(t, w, 1)
			rest(t, w)
			tells(t, w, c.want)
			does(t, w, api.OK, kill(1))
			tells(t, w, "sent; 2 normal, 1 killed")
		}
	}
	// Those that are linked with it, and those that watch it, are told.
	w := begun(t, src, num(0))
	rest(t, w)
	starts(t, w, "m", nil, api.OK)
	rest(t, w)
	starts(t, w, "s", []api.Term{num(api.MaxMessages + 1)}, api.OK)
	for range 6 {
		does(t, w, api.OK, slice(-1, 1000))
	}
	rest(t, w)
	tells(t, w, "sent [{'EXIT',<1>,system_limit},{'DOWN',#Ref<1>,process,<1>,system_limit}]; 1 system_limit, 3 normal, 2 normal")
}

// What is taken makes room.
func TestFullBoxRoom(t *testing.T) {
	rests(t, "f() -> s("+strconv.Itoa(api.MaxMessages)+"), receive 500 -> self() ! a end, print(b), self() ! c, print(d). s(0) -> ok; s(N) -> self() ! N, s(N - 1).", "b; 1 system_limit")
}

// Who has ended by what it asked is not answered: here by a letter to itself that its box has no room for.
func TestFullOwnBox(t *testing.T) {
	fill := " s(0) -> ok; s(N) -> self() ! N, s(N - 1)."
	full := "s(" + strconv.Itoa(api.MaxMessages) + "), "
	for _, c := range []struct{ src, want string }{
		{full + "print(a), self() ! x, print(b)", "a; 1 system_limit"},
		{full + "print(try self() ! x catch C : R -> {C, R} end)", "; 1 system_limit"},
		{full + "register(n, self()), n ! x, print(b)", "; 1 system_limit"},
		{"P = spawn(fun () -> ok end), exit(P, a), " + full + "print(a), monitor(P), print(b)", "a; 2 a, 1 system_limit"},
		{"P = spawn(fun () -> ok end), " + full + "print(monitor(P)), print(b)", "#Ref<1> b; 1 normal, 2 normal"},
		{"trap_exit(true), " + full + "print(a), exit(self(), normal), print(b)", "a; 1 system_limit"},
		{"trap_exit(true), P = spawn_link(fun () -> ok end), " + full + "print(a), exit(P, c), print(b)", "a; 2 c, 1 system_limit"},
		{"trap_exit(true), P = spawn_link(fun () -> ok end), unlink(P), " + full + "print(a), exit(P, c), print(b)", "a b; 2 c, 1 normal"},
		{"{P, R} = spawn_monitor(fun () -> ok end), " + full + "print(a), exit(P, c), print(b)", "a; 2 c, 1 system_limit"},
		{"{P, R} = spawn_monitor(fun () -> ok end), demonitor(R), " + full + "print(a), exit(P, c), print(b)", "a b; 2 c, 1 normal"},
	} {
		w := begun(t, "f() -> "+c.src+"."+fill)
		for range 10 {
			if len(w.See().Ended) == 0 || w.See().Verdict == 4 {
				does(t, w, api.OK, slice(0, 5000))
			}
		}
		if got := tale(w.See()); got != c.want {
			t.Errorf("%s tells %s, not %s", c.src, got, c.want)
		}
	}
}

// MaxProcs processes may be alive: then nobody is made, till one has ended.
func TestMaxProcs(t *testing.T) {
	const all = "print([c(fun () -> spawn(fun w/0) end), c(fun () -> spawn_link(fun w/0) end), c(fun () -> spawn_monitor(fun w/0) end)])"
	const bad = "print([c(fun () -> spawn(a) end), c(fun () -> spawn_link(a) end), c(fun () -> spawn_monitor(a) end)])"
	limit := "[" + strings.Repeat("{error,system_limit},", 2) + "{error,system_limit}]"
	src := "f() -> m(" + strconv.Itoa(api.MaxProcs-1) + "), " + all + ", " + bad + ", print(make_ref()), receive X -> ok end, " + all + ", receive Y -> ok end. m(0) -> ok; m(N) -> spawn(fun w/0), m(N - 1). n() -> " + all + "." + common
	w := begun(t, src)
	rest(t, w)
	want := limit + " " + wrongs(3) + " #Ref<1>"
	tells(t, w, want+"; ")
	starts(t, w, "n", nil, api.ErrFull)
	does(t, w, api.OK, kill(5), kill(6))
	starts(t, w, "n", nil, api.OK) // 33
	does(t, w, api.OK, slice(-1, 99))
	want += " [<34>,{error,system_limit},{error,system_limit}]"
	tells(t, w, want+"; 5 killed, 6 killed, 33 normal")
	starts(t, w, "n", nil, api.OK) // 35
	does(t, w, api.OK, slice(-1, 99))
	want += " " + limit
	tells(t, w, want+"; 5 killed, 6 killed, 33 normal, 35 normal")
	does(t, w, api.OK, kill(7), kill(8))
	starts(t, w, "n", nil, api.OK) // 36
	does(t, w, api.OK, slice(-1, 99))
	want += " [<37>,<38>,{error,system_limit}]"
	tells(t, w, want+"; 5 killed, 6 killed, 33 normal, 35 normal, 7 killed, 8 killed, 36 normal")
	if n := len(w.Ready()); n != 3 { // 34, 37 and 38 have not run yet
		t.Error(w.Ready())
	}
}

// MaxPids processes there may have been: then nobody is made any more, however few are alive.
func TestMaxPids(t *testing.T) {
	p := source(t, "f() -> print([c(fun () -> spawn(fun w/0) end), c(fun () -> spawn_link(fun w/0) end), c(fun () -> spawn_monitor(fun w/0) end), c(fun () -> spawn_monitor(a) end), make_ref()])."+common)
	// By how many there may be behind the one that asks.
	for left, want := range []string{
		"[{error,system_limit},{error,system_limit},{error,system_limit},{error,badarg},#Ref<1>]",
		"[<65536>,{error,system_limit},{error,system_limit},{error,badarg},#Ref<1>]",
		"[<65535>,<65536>,{error,system_limit},{error,badarg},#Ref<1>]",
		"[<65534>,<65535>,{<65536>,#Ref<1>},{error,badarg},#Ref<2>]",
	} {
		t.Run(strconv.Itoa(left), func(t *testing.T) {
			t.Parallel()
			w := of(t, p, enough)
			for i := range api.MaxPids - 1 - left {
				if w.Start("f", nil) != api.OK || w.Do(kill(i+1)) != api.OK {
					t.Fatal("Start of", i+1)
				}
			}
			starts(t, w, "f", nil, api.OK)
			areReady(t, w, api.MaxPids-left)
			does(t, w, api.OK, slice(0, 99))
			starts(t, w, "f", nil, api.ErrFull)
			starts(t, w, "f", []api.Term{{}}, api.ErrArg)
			starts(t, w, "none", nil, api.ErrNone)
			if s := w.See(); len(s.Ended) != api.MaxPids-left || entire(s.Out[0]) != want {
				t.Error(len(s.Ended), "have ended; printed is", entire(s.Out[0]))
			}
		})
	}
}

// MaxRefs references there may be: then none is made any more, by none of the three that make them.
func TestMaxRefs(t *testing.T) {
	t.Parallel()
	p := source(t, "f() -> r("+strconv.Itoa((api.MaxRefs-3)/16)+"), r("+strconv.Itoa(-((api.MaxRefs-3)%16))+")."+
		" r(0) -> ok; r(N) when N < 0 -> make_ref(), r(N + 1);"+
		" r(N) -> {make_ref(), make_ref(), make_ref(), make_ref(), make_ref(), make_ref(), make_ref(), make_ref(), make_ref(), make_ref(), make_ref(), make_ref(), make_ref(), make_ref(), make_ref(), make_ref()}, r(N - 1)."+
		" a() -> print([c(fun () -> X() end) || X <- [fun () -> make_ref() end, fun () -> monitor(self()) end, fun () -> monitor(a) end, fun () -> spawn_monitor(fun w/0) end, fun () -> spawn_monitor(a) end, fun () -> spawn(fun w/0) end]])."+
		" d(P) -> print([c(fun () -> monitor(P) end), g()])."+common)
	w := of(t, p, enough)
	starts(t, w, "f", nil, api.OK)
	does(t, w, api.OK, slice(0, 1<<24))
	tells(t, w, "; 1 normal")
	starts(t, w, "a", nil, api.OK)
	does(t, w, api.OK, slice(0, 99))
	want := "[#Ref<1048574>,#Ref<1048575>,{error,badarg},{<3>,#Ref<1048576>},{error,badarg},<4>]"
	tells(t, w, want+"; 1 normal, 2 normal")
	starts(t, w, "a", nil, api.OK)
	does(t, w, api.OK, slice(-1, 99)) // nobody is made whom there is no reference to watch by
	want += " [{error,system_limit},{error,system_limit},{error,badarg},{error,system_limit},{error,badarg},<6>]"
	tells(t, w, want+"; 1 normal, 2 normal, 5 normal")
	for _, n := range []int{3, 1, 99} { // alive, ended, never there: nobody is told anything
		starts(t, w, "d", []api.Term{pid(n)}, api.OK)
		does(t, w, api.OK, slice(-1, 99))
	}
	want += strings.Repeat(" [{error,system_limit},none]", 3)
	tells(t, w, want+"; 1 normal, 2 normal, 5 normal, 7 normal, 8 normal, 9 normal")
}
