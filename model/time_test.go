package model_test

import (
	"math"
	"strconv"
	"testing"

	"pigeonhole/api"
	"pigeonhole/model"
)

// sender is a function that sends X to the process of the name p.
const sender = " s(X) -> p ! X."

// sends has a process of its own send a letter to the process of the name p; it must be the only one that is ready.
func sends(t *testing.T, w *model.World, letter string) {
	t.Helper()
	areReady(t, w)
	starts(t, w, "s", []api.Term{atom(letter)}, api.OK)
	does(t, w, api.OK, slice(0, 9))
}

// P17.2: a Tick that comes to the time just, one short of it, and one beyond it.
func TestTick(t *testing.T) {
	const src = "f(T) -> receive X -> print(X) after T -> print({late, now()}) end."
	for _, after := range []int{1, 2, 5, 1000, math.MaxInt32 - 1, math.MaxInt32} {
		for _, c := range []struct {
			ticks []int
			over  bool
		}{
			{[]int{after}, true}, {[]int{after - 1}, false}, {[]int{after - 1, 1}, true}, {[]int{after + 1}, true}, {[]int{1 << 40}, true},
			{[]int{0}, false}, {nil, false}, {[]int{0, after, 0}, true}, {[]int{after - 1, 0, 0}, false}, {[]int{after / 2, after - after/2 - 1}, false}, {[]int{after / 2, after - after/2}, true},
		} {
			w := begun(t, src, num(int64(after)))
			does(t, w, api.OK, slice(0, 9))
			sees(t, w, "; ; ; v2 s1 c0")
			now := 0
			for _, n := range c.ticks {
				does(t, w, api.OK, tick(n))
				now += n
			}
			c0 := " c" + strconv.Itoa(now)
			if !c.over {
				areReady(t, w)
				sees(t, w, "; ; ; v2 s1"+c0)
				continue
			}
			areReady(t, w, 1)
			sees(t, w, "; ; ; v4 s1"+c0)
			does(t, w, api.OK, slice(0, 9))
			sees(t, w, "{late,"+strconv.Itoa(now)+"}; 1 normal; ; v1 s3"+c0)
		}
	}
}

// P17.2: one that is to wait for no time does not wait; one that is to wait for letters alone waits on, whatever the clock says.
func TestTickNever(t *testing.T) {
	w := begun(t, "f() -> receive X -> print(X) after 0 -> print(late) end.")
	does(t, w, api.OK, slice(0, 9))
	sees(t, w, "late; 1 normal; ; v1 s2 c0")
	for _, src := range []string{"f() -> receive X -> print(X) end.", "f() -> receive X -> print(X) after infinity -> print(late) end."} {
		w := begun(t, src)
		does(t, w, api.OK, slice(0, 9), tick(0), tick(1<<39), tick(1<<39), tick(0))
		sees(t, w, "; ; ; v2 s1 c1099511627776")
		areReady(t, w)
	}
}

// P17.2: a Tick that the clock does not take is ErrArg, and changes nothing.
func TestTickWrong(t *testing.T) {
	const most = 1 << 40
	w := begun(t, "f() -> print(now()), receive X -> X after 5 -> print(now()) end.")
	does(t, w, api.OK, slice(0, 9))
	for _, now := range []int{0, 3, most - 1} {
		does(t, w, api.OK, tick(now-w.See().Clock))
		before := shown(w.See())
		for _, n := range []int{-1, -2, math.MinInt, math.MinInt32, most - now + 1, most - now + 2, most + 1, math.MaxInt, math.MaxInt - most} {
			for _, k := range []int{0, 1, -1, 99} {
				does(t, w, api.ErrArg, api.Step{Kind: api.StepTick, K: k, N: n})
			}
		}
		sees(t, w, before)
	}
	does(t, w, api.OK, tick(1), slice(0, 9))
	sees(t, w, "0 1099511627776; 1 normal; ; v1 s5 c1099511627776")
	does(t, w, api.ErrArg, tick(1))
	does(t, w, api.OK, tick(0), api.Step{Kind: api.StepTick, K: -7})
}

// P17.2: its time goes on as it was where it is woken in vain; it has been set once.
func TestWokenInVain(t *testing.T) {
	for times := range 5 {
		w := of(t, source(t, "f() -> register(p, self()), receive go -> print(go) after 5 -> print({late, now()}) end."+sender), enough)
		starts(t, w, "f", nil, api.OK)
		does(t, w, api.OK, slice(0, 9))
		for range times {
			does(t, w, api.OK, tick(1))
			sends(t, w, "no")
			areReady(t, w, 1)
			does(t, w, api.OK, slice(0, 9))
			areReady(t, w)
		}
		does(t, w, api.OK, tick(5-times-1))
		areReady(t, w)
		does(t, w, api.OK, tick(1))
		areReady(t, w, 1)
		does(t, w, api.OK, slice(0, 9))
		if l := w.See().Out; len(l) != 1 || entire(l[0]) != "{late,5}" {
			t.Error(times, tale(w.See()))
		}
	}
}

// P17.2: the time comes of one that a letter has made ready, but that has not run yet: it has it over, and the letter stays.
func TestTimeAheadOfLetter(t *testing.T) {
	w := of(t, source(t, "f() -> register(p, self()), receive go -> print(early) after 5 -> print(late) end, receive X -> print(X) end."+sender), enough)
	starts(t, w, "f", nil, api.OK)
	does(t, w, api.OK, slice(0, 9), tick(4))
	sends(t, w, "go")
	areReady(t, w, 1)
	does(t, w, api.OK, tick(1))
	areReady(t, w, 1)
	does(t, w, api.OK, slice(0, 9))
	tells(t, w, "late go; 2 normal, 1 normal")

	// The other way about: the letter comes to one whose time is over, and that has not run yet.
	w = of(t, source(t, "f() -> register(p, self()), receive go -> print(early) after 5 -> print(late) end, receive X -> print(X) end. s(X) -> p ! X, print(sent)."), enough)
	starts(t, w, "f", nil, api.OK)
	does(t, w, api.OK, slice(0, 9), tick(5))
	starts(t, w, "s", []api.Term{atom("go")}, api.OK)
	does(t, w, api.OK, slice(1, 9), tick(7), slice(0, 9))
	tells(t, w, "sent late go; 2 normal, 1 normal")
}

// P17.2: behind a letter that it took, the time of the next receive is what counts: from when that began.
func TestTimeAnew(t *testing.T) {
	begin := func(second string) *model.World {
		w := of(t, source(t, "f() -> register(p, self()), receive a -> "+second+" after 5 -> print(early) end."+sender), enough)
		starts(t, w, "f", nil, api.OK)
		does(t, w, api.OK, slice(0, 9), tick(3))
		sends(t, w, "a")
		does(t, w, api.OK, slice(0, 99))
		areReady(t, w)
		return w
	}
	for _, after := range []int{1, 2, 3, 5, 100} {
		w := begin("receive b -> print(b) after " + strconv.Itoa(after) + " -> print({late, now()}) end")
		does(t, w, api.OK, tick(after-1))
		areReady(t, w)
		does(t, w, api.OK, tick(1))
		areReady(t, w, 1)
		does(t, w, api.OK, slice(0, 9))
		tells(t, w, "{late,"+strconv.Itoa(3+after)+"}; 2 normal, 1 normal")
	}
	// Where the next one has no time, or the process has gone on to ask, to be spent, to end, the former time has nothing to tell any more.
	for _, second := range []string{"receive b -> print(b) end", "receive b -> print(b) after infinity -> print(late) end"} {
		w := begin(second)
		does(t, w, api.OK, tick(2), tick(1), tick(1000))
		areReady(t, w)
		sends(t, w, "b")
		does(t, w, api.OK, slice(0, 9))
		tells(t, w, "b; 2 normal, 3 normal, 1 normal")
	}
	w := begin("print(now())")
	tells(t, w, "3; 2 normal, 1 normal")
	does(t, w, api.OK, tick(2), tick(2))
	sees(t, w, "3; 2 normal, 1 normal; ; v1 s6 c7")
}

// P17.2: in slices of one reduction, the time counts from where the receive's own is taken.
func TestTimeInSlices(t *testing.T) {
	w := begun(t, "f() -> print(1 + now()), receive X -> X after 3 -> print({late, now()}) end.")
	for range 4 {
		does(t, w, api.OK, tick(2), slice(0, 1))
	}
	sees(t, w, "3; ; ; v2 s4 c8")
	does(t, w, api.OK, tick(2))
	areReady(t, w)
	does(t, w, api.OK, tick(1))
	areReady(t, w, 1)
	does(t, w, api.OK, slice(0, 1), tick(2), slice(0, 1))
	sees(t, w, "3 {late,11}; 1 normal; ; v1 s6 c13")

	w = begun(t, "f() -> g(4). g(0) -> ok; g(N) -> receive x -> x after N -> print({N, now()}) end, g(N - 1).")
	for range 12 {
		does(t, w, api.OK, slice(0, 99), tick(1))
	}
	sees(t, w, "{4,4} {3,7} {2,9} {1,10}; 1 normal; ; v1 s21 c12")
}

// P17.2: all whose time has come are ready, and nobody else.
func TestTickSeveral(t *testing.T) {
	p := source(t, "f(T) -> receive X -> X after T -> print({T, self(), now()}) end.")
	w := of(t, p, enough)
	for _, n := range []int64{5, 3, 9, 5, 3, 1, 20} {
		starts(t, w, "f", []api.Term{num(n)}, api.OK)
		does(t, w, api.OK, slice(0, 9))
	}
	does(t, w, api.OK, tick(3))
	areReady(t, w, 2, 5, 6)
	does(t, w, api.OK, kill(4), kill(5), tick(1))
	areReady(t, w, 2, 6)
	does(t, w, api.OK, slice(1, 9), tick(5))
	areReady(t, w, 1, 2, 3)
	does(t, w, api.OK, slice(2, 9), slice(0, 9), tick(100))
	areReady(t, w, 2, 7)
	rest(t, w)
	tells(t, w, "{1,<6>,4} {9,<3>,9} {5,<1>,9} {3,<2>,109} {20,<7>,109}; 4 killed, 5 killed, 6 normal, 3 normal, 1 normal, 2 normal, 7 normal")
}

// P17.2: one that has ended while it waited has no time any more.
func TestTimeOfEnded(t *testing.T) {
	p := source(t, "f() -> spawn_link(fun () -> receive X -> X after 5 -> print(late) end end), receive X -> X after 5 -> print(late) end.")
	w := of(t, p, enough)
	starts(t, w, "f", nil, api.OK)
	does(t, w, api.OK, slice(0, 9), slice(0, 9), kill(1), tick(4), tick(1), tick(0), slice(0, 9))
	sees(t, w, "; 1 killed, 2 killed; ; v1 s3 c5")
}
