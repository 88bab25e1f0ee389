package model_test

import (
	"slices"
	"strconv"
	"strings"
	"testing"

	"pigeonhole/api"
	"pigeonhole/model"
	"pigeonhole/term"
)

// ties is a program of processes that wait until they are told to link, to watch, to trap, to print all their letters; o(P, X) tells one of them, with a process of its own.
const ties = "f() -> f(receive {o, X} -> X end)." +
	" f({link, P}) -> link(P), f(); f({watch, P}) -> monitor(P), f(); f(trap) -> trap_exit(true), f(); f(letters) -> letters(), f(); f(fill) -> fill(1024), f(); f(stop) -> ok; f({stop, X}) -> exit(X)." +
	" letters() -> receive X -> print({self(), X}), letters() after 0 -> ok end." +
	" fill(0) -> ok; fill(N) -> self() ! N, fill(N - 1)." +
	" o(P, X) -> P ! {o, X}."

// tied are n processes of ties, each of which waits.
func tied(t *testing.T, n int) *model.World {
	t.Helper()
	w := of(t, source(t, ties), enough)
	for range n {
		starts(t, w, "f", nil, api.OK)
		does(t, w, api.OK, slice(0, 9))
	}
	return w
}

// order has one of them do something, at once. Its teller has ended by then, and counts for a pid.
func order(t *testing.T, w *model.World, who int, what ...api.Term) {
	t.Helper()
	x := what[0]
	if len(what) > 1 {
		x = tuple(what...)
	}
	if len(w.Ready()) > 0 {
		t.Error("ready are", w.Ready())
	}
	starts(t, w, "o", []api.Term{pid(who), x}, api.OK)
	does(t, w, api.OK, slice(-1, 9))
	rest(t, w)
}

// fates is who has ended, but for the tellers, who end with normal.
func fates(w *model.World) string {
	var out []string
	for _, e := range w.See().Ended {
		if why := entire(e.Reason); why != "normal" {
			out = append(out, strconv.Itoa(e.Pid)+" "+why)
		}
	}
	return strings.Join(out, ", ")
}

func isFated(t *testing.T, w *model.World, want string) {
	t.Helper()
	if got := fates(w); got != want {
		t.Errorf("ended have %s, not %s", cut(got), cut(want))
	}
}

// P17.4, P4: links go both ways; who ends tells each linked one by their pids, and whom that ends does so ahead of the next one.
func TestSignalOrder(t *testing.T) {
	for _, c := range []struct {
		links [][2]int
		kill  int
		want  string
	}{
		{nil, 2, "2 killed"},
		{[][2]int{{1, 2}}, 1, "1 killed, 2 killed"},
		{[][2]int{{1, 2}}, 2, "2 killed, 1 killed"},
		{[][2]int{{1, 4}, {1, 2}, {3, 1}}, 1, "1 killed, 2 killed, 3 killed, 4 killed"},
		{[][2]int{{1, 2}, {1, 3}, {2, 4}}, 1, "1 killed, 2 killed, 4 killed, 3 killed"},
		{[][2]int{{1, 2}, {1, 3}, {2, 4}}, 3, "3 killed, 1 killed, 2 killed, 4 killed"},
		{[][2]int{{1, 4}, {4, 3}, {3, 2}}, 1, "1 killed, 4 killed, 3 killed, 2 killed"},
		{[][2]int{{1, 2}, {3, 4}}, 3, "3 killed, 4 killed"},
		{[][2]int{{1, 2}, {2, 3}, {3, 1}, {4, 3}}, 2, "2 killed, 1 killed, 3 killed, 4 killed"},
	} {
		w := tied(t, 4)
		for _, l := range c.links {
			order(t, w, l[0], atom("link"), pid(l[1]))
		}
		does(t, w, api.OK, kill(c.kill))
		isFated(t, w, c.want)
	}
	// In a ring, which leaves room for a teller, the lesser one of two is told first, and then each one has the next one end.
	const n = api.MaxProcs - 1
	for _, want := range [][]int{upTo(1, n), append(downTo(5, 1), downTo(n, 6)...), append([]int{n}, upTo(1, n-1)...)} {
		w := tied(t, n)
		for i := range n {
			order(t, w, i+1, atom("link"), pid((i+1)%n+1))
		}
		does(t, w, api.OK, kill(want[0]))
		var all []string
		for _, who := range want {
			all = append(all, strconv.Itoa(who)+" killed")
		}
		isFated(t, w, strings.Join(all, ", "))
	}
}

func upTo(from, to int) []int {
	var out []int
	for i := from; i <= to; i++ {
		out = append(out, i)
	}
	return out
}

func downTo(from, to int) []int {
	out := upTo(to, from)
	slices.Reverse(out)
	return out
}

// P17.4: to whom that traps, and to whom that does not, with normal and with others.
func TestSignalReasons(t *testing.T) {
	for _, c := range []struct {
		stop         []api.Term
		plain, traps string
	}{
		{[]api.Term{atom("stop")}, "", "normal"},
		{[]api.Term{atom("stop"), atom("normal")}, "", "normal"},
		{[]api.Term{atom("stop"), atom("a")}, "2 a, 1 a", "a"},
		{[]api.Term{atom("stop"), atom("kill")}, "2 kill, 1 kill", "kill"},
		{[]api.Term{atom("stop"), atom("killed")}, "2 killed, 1 killed", "killed"},
		{[]api.Term{atom("stop"), tuple(list(num(1)), ref(5))}, "2 {[1],#Ref<5>}, 1 {[1],#Ref<5>}", "{[1],#Ref<5>}"},
		{[]api.Term{atom("stop"), list(atom("normal"))}, "2 [normal], 1 [normal]", "[normal]"},
		{[]api.Term{atom("stop"), tuple()}, "2 {}, 1 {}", "{}"},
	} {
		w := tied(t, 3)
		order(t, w, 1, atom("link"), pid(2))
		order(t, w, 2, c.stop...)
		isFated(t, w, c.plain)

		w = tied(t, 3)
		order(t, w, 1, atom("trap"))
		order(t, w, 1, atom("link"), pid(2))
		order(t, w, 2, c.stop...)
		order(t, w, 1, atom("letters"))
		isFated(t, w, strings.TrimSuffix(c.plain, ", 1 "+c.traps))
		if got := tale(api.Seen{Out: w.See().Out}); got != "{<1>,{'EXIT',<2>,"+c.traps+"}}; " {
			t.Error(c.traps, "tells", got)
		}
	}
}

// P17.4, P4: each link, and each monitor, tells once; all of one that ends behind another tells ahead of what that one tells next.
func TestSignalLetters(t *testing.T) {
	w := tied(t, 5)
	order(t, w, 5, atom("trap"))
	for _, l := range [][2]int{{1, 2}, {1, 5}, {5, 2}, {1, 3}, {5, 1}} {
		order(t, w, l[0], atom("link"), pid(l[1]))
	}
	for _, m := range [][2]int{{5, 2}, {5, 1}, {4, 3}, {5, 3}, {4, 1}, {5, 1}, {2, 1}, {3, 3}} {
		order(t, w, m[0], atom("watch"), pid(m[1]))
	}
	does(t, w, api.OK, kill(1))
	isFated(t, w, "1 killed, 2 killed, 3 killed")
	rest(t, w)
	order(t, w, 4, atom("letters"))
	order(t, w, 5, atom("letters"))
	want := []string{
		"{<4>,{'DOWN',#Ref<3>,process,<3>,killed}}", "{<4>,{'DOWN',#Ref<5>,process,<1>,killed}}",
		"{<5>,{'EXIT',<2>,killed}}", "{<5>,{'DOWN',#Ref<1>,process,<2>,killed}}", "{<5>,{'DOWN',#Ref<4>,process,<3>,killed}}",
		"{<5>,{'EXIT',<1>,killed}}", "{<5>,{'DOWN',#Ref<2>,process,<1>,killed}}", "{<5>,{'DOWN',#Ref<6>,process,<1>,killed}}",
	}
	if got := strings.TrimSuffix(tale(api.Seen{Out: w.See().Out}), "; "); got != strings.Join(want, " ") {
		t.Errorf("told is\n%s, not\n%s", got, strings.Join(want, " "))
	}
	// They have been told: nothing tells them again.
	does(t, w, api.OK, kill(4))
	order(t, w, 5, atom("letters"))
	if n := len(w.See().Out); n != len(want) {
		t.Error(n, "letters")
	}
}

// P17.4: by their pids, and by their references, those are told that a process tells as it ends: here each of them ends for it, its box being full.
func TestSignalFull(t *testing.T) {
	w := tied(t, 6)
	for _, who := range []int{5, 3, 4} {
		order(t, w, who, atom("trap"))
		order(t, w, who, atom("link"), pid(1))
	}
	for _, who := range []int{6, 2} {
		order(t, w, who, atom("watch"), pid(1))
	}
	for who := 2; who <= 6; who++ {
		order(t, w, who, atom("fill"))
	}
	isFated(t, w, "")
	does(t, w, api.OK, kill(1))
	isFated(t, w, "1 killed, 3 system_limit, 4 system_limit, 5 system_limit, 6 system_limit, 2 system_limit")
	if v := w.See().Verdict; v != 1 {
		t.Error("verdict", v)
	}
}

// A letter that is no right term: what it would tell last is system_limit.
func TestLetterTooGreat(t *testing.T) {
	p := source(t, "p() -> register(p, self()), trap_exit(true), l(). l() -> receive X -> print(X), l() end. w() -> receive X -> X end. e(X) -> exit(whereis(p), X)."+
		" q() -> register(q, self()), w(). r() -> link(whereis(q)), trap_exit(true), l(). s() -> link(whereis(q)), w(). m() -> monitor(whereis(q)), l(). k(X) -> exit(whereis(q), X).")
	fits := func(x api.Term, room int) string {
		if term.Size(x) > room {
			return "system_limit"
		}
		return entire(x)
	}
	for size := 4088; size <= api.MaxSize; size++ {
		x := great(size)
		exit, down := fits(x, 4093), fits(x, 4091)
		// A signal to one that traps.
		w := of(t, p, enough)
		starts(t, w, "p", nil, api.OK)
		rest(t, w)
		starts(t, w, "e", []api.Term{x}, api.OK)
		rest(t, w)
		tells(t, w, "{'EXIT',<2>,"+exit+"}; 2 normal")
		areReady(t, w)
		// The signals, and the letter, of one that ends with it: who ends by such a signal has the reason as it is.
		w = of(t, p, enough)
		for _, f := range []string{"q", "r", "s", "m"} {
			starts(t, w, f, nil, api.OK)
			rest(t, w)
		}
		starts(t, w, "k", []api.Term{x}, api.OK)
		rest(t, w)
		tells(t, w, "{'EXIT',<1>,"+exit+"} {'DOWN',#Ref<1>,process,<1>,"+down+"}; 1 "+entire(x)+", 3 "+entire(x)+", 5 normal")
	}
}
