package model_test

import (
	"math"
	"math/big"
	"math/rand"
	"strconv"
	"strings"
	"testing"

	"pigeonhole/api"
)

// P17.2: the place K modulo r, never below 0, of those that are ready, by pid.
func TestSlicePlace(t *testing.T) {
	p := source(t, "f() -> print(self()), f(). w() -> receive X -> X end.")
	places := []int{math.MinInt, math.MinInt + 1, math.MinInt + 2, math.MinInt + 3, math.MinInt32, math.MaxInt32, math.MaxInt - 2, math.MaxInt - 1, math.MaxInt}
	for k := -40; k <= 40; k++ {
		places = append(places, k)
	}
	for _, names := range []string{"f", "ff", "wffwf", "fwfwfwwf", "fffffff", "wwf", strings.Repeat("f", api.MaxProcs)} {
		for _, k := range places {
			w := of(t, p, enough)
			var ready []int
			for i, name := range strings.Split(names, "") {
				starts(t, w, name, nil, api.OK)
				if name == "w" {
					does(t, w, api.OK, slice(len(ready), 1)) // it waits
				} else {
					ready = append(ready, i+1)
				}
			}
			areReady(t, w, ready...)
			does(t, w, api.OK, slice(k, 2))
			place := new(big.Int).Mod(big.NewInt(int64(k)), big.NewInt(int64(len(ready)))).Int64()
			tells(t, w, "<"+strconv.Itoa(ready[place])+">; ")
			areReady(t, w, ready...)
		}
	}
}

// P17.2: nothing, if N is below 1, no fuel is left, or nobody is ready.
func TestSliceNone(t *testing.T) {
	p := source(t, "f() -> print(1), f(). w() -> receive X -> X end. e() -> exit(a).")
	for _, k := range []int{0, 1, -1, 7, math.MinInt, math.MaxInt} {
		w := of(t, p, 6)
		for _, n := range []int{1, 9, 0, -1, math.MaxInt, math.MinInt} { // nobody there
			does(t, w, api.OK, slice(k, n))
			sees(t, w, "; ; ; v1 s0 c0")
		}
		starts(t, w, "e", nil, api.OK)
		for _, n := range []int{0, -1, -2, math.MinInt32, math.MinInt} {
			does(t, w, api.OK, slice(k, n))
			sees(t, w, "; ; ; v4 s0 c0")
		}
		does(t, w, api.OK, slice(k, 1))
		sees(t, w, "; 1 a; ; v1 s1 c0")
		starts(t, w, "w", nil, api.OK)
		does(t, w, api.OK, slice(k, 1), slice(k, 1), slice(k, 9), slice(k, 0)) // all wait
		sees(t, w, "; 1 a; ; v2 s2 c0")
		starts(t, w, "f", nil, api.OK)
		does(t, w, api.OK, slice(k, 4), slice(k, 1), slice(k, 0), slice(k, math.MaxInt)) // no fuel is left
		sees(t, w, "1 1; 1 a; ; v3 s6 c0")
		areReady(t, w, 3)
	}
}

// P17.2: how far a slice goes: what asks is answered, and what needs no reduction is done, even where none is left.
func TestSliceLength(t *testing.T) {
	for _, c := range []struct {
		src   string
		wants []string // by how many reductions the slice has, from 1 on; the last one for all that are greater
	}{
		{"f() -> 1.", []string{"; 1 normal; ; v1 s0 c0"}},
		{"f() -> print(1).", []string{"1; 1 normal; ; v1 s1 c0"}},
		{"f() -> print(1 + 1).", []string{"; ; ; v4 s1 c0", "2; 1 normal; ; v1 s2 c0"}},
		{"f() -> print(1), print(2), print(3), 4.", []string{"1; ; ; v4 s1 c0", "1 2; ; ; v4 s2 c0", "1 2 3; 1 normal; ; v1 s3 c0"}},
		{"f() -> g(). g() -> exit(print(a)).", []string{"; ; ; v4 s1 c0", "a; ; ; v4 s2 c0", "a; 1 ok; ; v1 s3 c0"}},
		{"f() -> register(a, self()), g().  g() -> ok.", []string{"; ; ; v4 s1 c0", "; ; a=1; v4 s2 c0", "; 1 normal; ; v1 s3 c0"}},
		{"f() -> print(a), receive X -> X end.", []string{"a; ; ; v4 s1 c0", "a; ; ; v2 s2 c0"}},
		{"f() -> self() ! x, receive X -> print(X) end.", []string{"; ; ; v4 s1 c0", "; ; ; v4 s2 c0", "; ; ; v4 s3 c0", "x; 1 normal; ; v1 s4 c0"}},
		{"f() -> self() ! x, receive X -> X end.", []string{"; ; ; v4 s1 c0", "; ; ; v4 s2 c0", "; 1 normal; ; v1 s3 c0"}},
		{"f() -> exit(self(), kill), print(a).", []string{"; ; ; v4 s1 c0", "; 1 killed; ; v1 s2 c0"}},
	} {
		for n := range 12 {
			want := c.wants[min(n, len(c.wants)-1)]
			w := begun(t, c.src)
			does(t, w, api.OK, slice(0, n+1))
			if got := shown(w.See()); got != want {
				t.Errorf("%s, a slice of %d: %s, not %s", c.src, n+1, got, want)
			}
			// With as much fuel it goes as far, but for what is left to be done.
			w = of(t, source(t, c.src), n+1)
			starts(t, w, "f", nil, api.OK)
			does(t, w, api.OK, slice(0, math.MaxInt))
			if got, want := shown(w.See()), strings.Replace(want, "v4", "v3", 1); got != want {
				t.Errorf("%s, a fuel of %d: %s, not %s", c.src, n+1, got, want)
			}
		}
	}
}

// P17.2: a slice is as long as it says, as long as there is fuel, which is one for all.
func TestSliceFuel(t *testing.T) {
	p := source(t, "f() -> f(). g(X) -> print(X), g(X + 1).")
	for _, n := range []int{1, 2, 7, 1000} {
		w := of(t, p, 3*n+1)
		starts(t, w, "f", nil, api.OK)
		starts(t, w, "f", nil, api.OK)
		for i, want := range []int{n, 2 * n, 3 * n, 3*n + 1, 3*n + 1} {
			does(t, w, api.OK, slice(i, n))
			verdict := "v4"
			if want > 3*n {
				verdict = "v3"
			}
			sees(t, w, "; ; ; "+verdict+" s"+strconv.Itoa(want)+" c0")
			areReady(t, w, 1, 2)
		}
	}
	for _, n := range []int{6, 7, 100, math.MaxInt} {
		w := of(t, p, 6)
		starts(t, w, "g", []api.Term{num(5)}, api.OK)
		does(t, w, api.OK, slice(0, n))
		sees(t, w, "5 6; ; ; v3 s6 c0")
		does(t, w, api.OK, slice(0, n), slice(0, 1))
		sees(t, w, "5 6; ; ; v3 s6 c0")
		starts(t, w, "g", []api.Term{num(1)}, api.OK)
		does(t, w, api.OK, slice(1, n), tick(3), kill(1), collect(2, 0))
		sees(t, w, "5 6; 1 killed; ; v3 s6 c3")
		does(t, w, api.OK, kill(2))
		sees(t, w, "5 6; 1 killed, 2 killed; ; v1 s6 c3")
	}
}

// P17.2: of a process that ends: its reason.
func TestSliceEnds(t *testing.T) {
	for _, c := range []struct{ src, want string }{
		{"f() -> ok.", "; 1 normal"},
		{"f() -> exit(normal).", "; 1 normal"},
		{"f() -> exit({a, [1]}).", "; 1 {a,[1]}"},
		{"f() -> error(a).", "; 1 a"},
		{"f() -> throw(a).", "; 1 {nocatch,a}"},
		{"f() -> exit(kill).", "; 1 kill"},
		{"f() -> 1 + a.", "; 1 badarith"},
		{"f() -> hd([]).", "; 1 badarg"},
		{"f() -> link(a).", "; 1 badarg"},
		{"f() -> case 1 of 2 -> 3 end.", "; 1 {case_clause,1}"},
		{"f() -> try error(a) catch exit : _ -> 1 end.", "; 1 a"},
		{"f() -> try error(a) catch error : R -> exit({R, b}) end.", "; 1 {a,b}"},
		{"f() -> receive X -> X after a -> 1 end.", "; 1 timeout_value"},
		{"f() -> exit(g(" + strconv.Itoa(api.MaxSize-3) + ", [])). g(0, L) -> list_to_tuple(L); g(N, L) -> g(N - 1, [a | L]).", "; 1 system_limit"}, // a list is twice as great
		{"f() -> f().", "; "},
	} {
		w := begun(t, c.src)
		does(t, w, api.OK, slice(0, 30_000))
		if got := tale(w.See()); got != c.want {
			t.Errorf("%s tells %s, not %s", cut(c.src), cut(got), c.want)
		}
	}
}

// P17.2: one runs, and no other, though a letter has made that ready, or it was made.
func TestSliceOne(t *testing.T) {
	p := source(t, "f() -> register(p, self()), receive X -> print({1, X}) end. g() -> p ! a, spawn(fun () -> print(3) end), print(2).")
	w := of(t, p, enough)
	starts(t, w, "f", nil, api.OK)
	does(t, w, api.OK, slice(0, 100))
	starts(t, w, "g", nil, api.OK)
	areReady(t, w, 2)
	does(t, w, api.OK, slice(0, 100))
	sees(t, w, "2; 2 normal; p=1; v4 s6 c0")
	areReady(t, w, 1, 3)
	does(t, w, api.OK, slice(1, 100))
	sees(t, w, "2 3; 2 normal, 3 normal; p=1; v4 s7 c0")
	does(t, w, api.OK, slice(1, 100))
	sees(t, w, "2 3 {1,a}; 2 normal, 3 normal, 1 normal; ; v1 s8 c0")
}

// partings are ways to part reductions into slices: each tells of the i-th slice how long it is.
func partings(r *rand.Rand) map[string]func(i int) int {
	return map[string]func(i int) int{
		"1": func(int) int { return 1 }, "2": func(int) int { return 2 }, "3": func(int) int { return 3 }, "7": func(int) int { return 7 },
		"none and one in turn": func(i int) int { return i % 2 },
		"rising":               func(i int) int { return i },
		"by chance":            func(int) int { return r.Intn(12) - 3 },
		"fuel":                 func(int) int { return math.MaxInt },
	}
}

// P17.4, P5: however the reductions of one that runs alone are parted, it comes to the same.
func TestSlicesAlone(t *testing.T) {
	for _, c := range []struct{ src, want string }{
		{"f() -> print(fib(9)). fib(0) -> 0; fib(1) -> 1; fib(N) -> fib(N - 1) + fib(N - 2).", "34; 1 normal; ; v1 s272 c0"},
		{"f() -> self() ! 1, self() ! 2, receive 2 -> receive X -> print(X) end end.", "1; 1 normal; ; v1 s7 c0"},
		{"f() -> self() ! 1, receive 2 -> 3 after 0 -> print(none) end, receive Y -> print(Y) end.", "none 1; 1 normal; ; v1 s6 c0"},
		{"f() -> self() ! 1, self() ! 2, receive 3 -> 4 after 5 -> print(late) end.", "; ; ; v2 s5 c0"},
		{"f() -> print(try link(a) catch C : R -> {C, R} end), g(3). g(0) -> exit(self(), hi), print(a); g(N) -> print({make_ref(), spawn(fun () -> N end)}), g(N - 1).", "{error,badarg} {#Ref<1>,<2>} {#Ref<2>,<3>} {#Ref<3>,<4>}; 1 hi; ; v4 s20 c0"},
		{"f() -> trap_exit(true), exit(self(), a), {P, R} = spawn_monitor(fun () -> 1 end), exit(P, b), receive {'EXIT', S, T} -> print({S, T}) end, receive {'DOWN', R, process, P, U} -> print({R, P, U}) end, exit(e).", "{<1>,a} {#Ref<1>,<2>,b}; 2 b, 1 e; ; v1 s10 c0"},
		{"f() -> f().", "; ; ; v3 s500 c0"},
		{"f() -> f() + 1.", "; ; ; v3 s500 c0"},
	} {
		p := source(t, c.src)
		for name, n := range partings(rand.New(rand.NewSource(17))) {
			w := of(t, p, 500)
			starts(t, w, "f", nil, api.OK)
			for i := 0; i < 3000 && w.See().Verdict == 4 && w.Ready()[0] == 1; i++ {
				does(t, w, api.OK, slice(0, n(i)))
			}
			if got := shown(w.See()); got != c.want {
				t.Errorf("%s, %s: %s, not %s", c.src, name, got, c.want)
			}
		}
	}
}
