package step_test

import (
	"math/rand"
	"strconv"
	"strings"
	"testing"

	"pigeonhole/api"
	"pigeonhole/sound"
	"pigeonhole/step"
)

// partings are ways to part reductions into Runs; each one that is asked for begins anew.
func partings(seed int64) map[string]func() func() int {
	out := map[string]func() func() int{"all at once": func() func() int { return always(1 << 40) }}
	for _, n := range []int{1, 2, 3, 7} {
		out[strconv.Itoa(n)+" at a time"] = func() func() int { return always(n) }
	}
	out["none and one in turn"] = func() func() int {
		turn := 0
		return func() int {
			turn++
			return turn % 2
		}
	}
	out["by chance"] = func() func() int {
		r := rand.New(rand.NewSource(seed))
		return func() int { return r.Intn(12) - 3 }
	}
	return out
}

// life is all that a process comes to in most reductions, whatever parts they are taken in: what it asks, and is answered by turns; that it waits, and gets one of the letters, as long as there are some, or has its time over; that it ends.
// In each state Run is asked again, with none, which changes nothing.
func life(t *testing.T, p api.Program, args, letters []api.Term, most int, parts func() int) string {
	t.Helper()
	proc, m := begun(t, p, args...)
	put(t, m, letters[:len(letters)/2]...)
	letters = letters[len(letters)/2:]
	var out []string
	took := 0
	for turn := 0; turn < 400; {
		e := proc.Run(min(parts(), most-took), m)
		took += e.Took
		e.Took = 0
		if e.Kind == step.Spent && took < most {
			continue
		}
		out = append(out, shown(e)+" behind "+strconv.Itoa(took))
		if again := proc.Run(0, m); !sameEvents(again, e) {
			t.Errorf("%s, then %s", cut(shown(e)), cut(shown(again)))
		}
		turn++
		switch {
		case e.Kind == step.Asks && turn%4 == 3:
			raises(t, proc, failure("throw", num(int64(turn))), api.OK)
		case e.Kind == step.Asks:
			answers(t, proc, append(e.Args, num(int64(turn)))[0], api.OK)
		case e.Kind == step.Waits && len(letters) > 0:
			put(t, m, letters[0])
			letters = letters[1:]
		case e.Kind == step.Waits && proc.Over() == api.OK:
		default:
			return strings.Join(append(out, lettersOf(m.All())), "; ")
		}
	}
	return strings.Join(append(out, lettersOf(m.All())), "; ")
}

func lettersOf(row []api.Term) string {
	var out []string
	for _, t := range row {
		out = append(out, entire(t))
	}
	return strings.Join(out, " ")
}

// P13.4, P5: programs by chance, parted in each way.
func TestSlicesByChance(t *testing.T) {
	m := &maker{r: rand.New(rand.NewSource(5))}
	for i := range 1500 {
		p := m.program()
		var args, letters []api.Term
		for range p.Funcs[0].Arity {
			args = append(args, m.term())
		}
		for range m.r.Intn(8) {
			letters = append(letters, m.term())
		}
		ways := partings(int64(i))
		most := 1 + m.r.Intn(150)
		want := life(t, p, args, letters, most, ways["all at once"]())
		for name, parts := range ways {
			if got := life(t, p, args, letters, most, parts()); got != want {
				t.Fatalf("%s: %s\nat once: %s\n%s", name, cut(got), cut(want), cut(sound.Show(p.Funcs[0].Body)))
			}
		}
	}
}

// P13.4, P5: programs that are written, parted in each way; and what they come to.
func TestSlices(t *testing.T) {
	for _, c := range []struct{ src, begins string }{
		{"f(X) -> exit(fib(X)). fib(0) -> 0; fib(1) -> 1; fib(N) -> fib(N - 1) + fib(N - 2).", "ends 55 took 0 behind 442; "},
		{"f(X) -> exit(sort([(Y * 7) rem X || Y <- seq(1, X)])).", "ends [0,1,2,3,4,5,6,7,8,9] took 0 behind 35; "},
		{"f(X) -> exit([{A, B} || A <- seq(1, 3), B <- seq(A, 3), A + B < X div 2]).", "ends [{1,1},{1,2},{1,3},{2,2}] took 0 behind "},
		{"f(X) -> F = fun (G, 0) -> []; (G, N) -> [N * X | G(G, N - 1)] end, exit(F(F, 3)).", "ends [30,20,10] took 0 behind 11; "},
		{"f(X) -> exit(g(X)). g(0) -> throw(deep); g(N) -> try {N, g(N - 1)} catch throw : deep when N > 7 -> {caught, N} end.", "ends {10,{9,{caught,8}}} took 0 behind 23; "},
		{"f(X) -> self() ! X, receive 4 -> receive Y -> exit({Y, print(X)}) end after X -> exit(late) end.", "asks self() took 0 behind 1; asks !(1,10) took 0 behind 2; waits took 0 behind 3; asks print(10) took 0 behind 5; ends {1,10} took 0 behind 6; 2 3"},
		{"f(X) -> receive 9 -> 1 after X -> exit(late) end.", "waits took 0 behind 1; waits took 0 behind 1; waits took 0 behind 1; waits took 0 behind 1; ends late took 0 behind 2; 1 2 3 4 5 6"},
	} {
		p := source(t, c.src)
		for name, parts := range partings(1) {
			if got := life(t, p, []api.Term{num(10)}, numbers(1, 6), 1<<30, parts()); !strings.HasPrefix(got, c.begins) {
				t.Errorf("%s: %s: %s, not %s", c.src, name, cut(got), c.begins)
			}
		}
	}
}
