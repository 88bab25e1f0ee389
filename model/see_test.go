package model_test

import (
	"reflect"
	"testing"

	"pigeonhole/api"
	"pigeonhole/model"
	"pigeonhole/term"
)

// P17.3: the verdict, by what comes first.
func TestVerdict(t *testing.T) {
	p := source(t, "f() -> f(). w(T) -> receive X -> X after T -> ok end. n() -> 1.")
	w := of(t, p, 0)
	sees(t, w, "; ; ; v1 s0 c0") // nobody is alive, though there is no fuel
	starts(t, w, "n", nil, api.OK)
	sees(t, w, "; ; ; v3 s0 c0")
	does(t, w, api.OK, kill(1))
	sees(t, w, "; 1 killed; ; v1 s0 c0")

	w = of(t, p, 4)
	starts(t, w, "w", []api.Term{num(5)}, api.OK)
	sees(t, w, "; ; ; v4 s0 c0")
	does(t, w, api.OK, slice(0, 1))
	sees(t, w, "; ; ; v2 s1 c0")
	starts(t, w, "f", nil, api.OK)
	sees(t, w, "; ; ; v4 s1 c0")
	does(t, w, api.OK, slice(0, 2))
	sees(t, w, "; ; ; v4 s3 c0")
	does(t, w, api.OK, slice(0, 1))
	sees(t, w, "; ; ; v3 s4 c0")
	does(t, w, api.OK, kill(2))
	sees(t, w, "; 2 killed; ; v2 s4 c0") // all that are left wait, though there is no fuel
	does(t, w, api.OK, tick(5))
	sees(t, w, "; 2 killed; ; v3 s4 c5")
	does(t, w, api.OK, kill(1))
	sees(t, w, "; 2 killed, 1 killed; ; v1 s4 c5")
	starts(t, w, "n", nil, api.OK)
	sees(t, w, "; 2 killed, 1 killed; ; v3 s4 c5")
}

// P17.3: names, by name as bytes stand; who has ended, in that order; what was printed, in that order.
func TestSeen(t *testing.T) {
	w := of(t, source(t, "f(N) -> register(N, self()), print(N), receive X -> X end."), enough)
	for _, name := range []string{"b", "a", "", "\xff", "B", "aa", "'", "\x00", "zz"} {
		starts(t, w, "f", []api.Term{atom(name)}, api.OK)
		does(t, w, api.OK, slice(0, 9))
	}
	does(t, w, api.OK, kill(9), kill(2), kill(5))
	sees(t, w, "b a '' '\\xff' 'B' aa '\\'' '\\x00' zz; 9 killed, 2 killed, 5 killed; =3 \x00=8 '=7 aa=6 b=1 \xff=4; v2 s36 c0")
	areReady(t, w)
}

// P17.3: of each kind of term what was printed, and the reason with which who has ended.
func TestSeenTerms(t *testing.T) {
	w := of(t, source(t, "f(X) -> print(X), exit(X)."), enough)
	var out []api.Term
	var ended []api.Ended
	for i, x := range kinds() {
		starts(t, w, "f", []api.Term{x}, api.OK)
		does(t, w, api.OK, slice(0, 9))
		out = append(out, x)
		reason := x
		if term.Size(x) == api.MaxSize { // no error has room for it
			reason = atom("system_limit")
		}
		ended = append(ended, api.Ended{Pid: i + 1, Reason: reason})
	}
	want := api.Seen{Out: out, Ended: ended, Verdict: 1, Spent: 2 * len(out)}
	if got := w.See(); shown(got) != shown(want) {
		t.Errorf("seen is %s, not %s", cut(shown(got)), cut(shown(want)))
	}
}

// spoil changes all of a term's memory.
func spoil(x *api.Term) {
	for i := range x.Limbs {
		x.Limbs[i] = 77
	}
	for _, row := range [][]api.Term{x.Items, x.Tail} {
		for i := range row {
			spoil(&row[i])
			row[i] = atom("spoilt")
		}
	}
}

// R3: what is handed out is new memory: no change of it is seen.
func TestSeenMemory(t *testing.T) {
	big := api.Term{Kind: api.Int, Limbs: []uint32{1, 2, 3}}
	x := tuple(big, list(big, tuple(big)), api.Term{Kind: api.List, Items: []api.Term{tuple(big)}, Tail: []api.Term{tuple(num(1))}}, fun(1, tuple(big)))
	w := begun(t, "f(X) -> register(b, self()), spawn(fun () -> register(a, self()), receive Y -> Y end end), print(X), print({X, X}), receive b -> 1 after 1 -> print(X), exit(X) end.", x)
	starts(t, w, "f", []api.Term{x}, api.OK)
	does(t, w, api.OK, slice(1, 99), kill(2))
	starts(t, w, "f", []api.Term{x}, api.OK)
	for _, x := range []api.Step{slice(0, 99), slice(0, 99), slice(0, 99), tick(1), slice(0, 99), kill(3)} {
		does(t, w, api.OK, x)
		want, ready := shown(w.See()), w.Ready()
		for range 2 {
			s, pids := w.See(), w.Ready()
			for i := range s.Out {
				spoil(&s.Out[i])
				s.Out[i] = atom("spoilt")
			}
			for i := range s.Ended {
				spoil(&s.Ended[i].Reason)
				s.Ended[i] = api.Ended{}
			}
			for i := range s.Names {
				s.Names[i] = api.Named{Name: "spoilt", Pid: 99}
			}
			for i := range pids {
				pids[i] = 99
			}
			_, _, _ = append(s.Out[:0], atom("x")), append(s.Ended[:0], api.Ended{}), append(s.Names[:0], api.Named{})
			sees(t, w, want)
			areReady(t, w, ready...)
		}
		// Nor do two terms of one answer have memory in common.
		s := w.See()
		for i := range s.Out {
			rest := entire(tuple(s.Out[i+1:]...))
			spoil(&s.Out[i])
			if entire(tuple(s.Out[i+1:]...)) != rest {
				t.Error("what was printed shares memory")
			}
		}
		if again := w.See(); len(again.Out) > 1 {
			half := entire(again.Out[1].Items[1])
			spoil(&again.Out[1].Items[0])
			if entire(again.Out[1].Items[1]) != half {
				t.Error("the parts of a term share memory")
			}
		}
	}
}

// R3: no argument is changed, or kept.
func TestArgumentsMemory(t *testing.T) {
	begin := func() []api.Term {
		return []api.Term{tuple(list(num(1<<40), tuple(num(7))), fun(1, list(num(1)))), list(tuple(num(3)))}
	}
	args := begin()
	p := source(t, "f(X, Y) -> receive go -> 1 after 1 -> print(X), print(Y), exit([X | Y]) end.")
	kept := reflect.DeepEqual(p, source(t, "f(X, Y) -> receive go -> 1 after 1 -> print(X), print(Y), exit([X | Y]) end."))
	w := of(t, p, enough)
	starts(t, w, "f", args, api.OK)
	if !kept || !reflect.DeepEqual(args, begin()) {
		t.Error("Start has changed its arguments")
	}
	for i := range args {
		spoil(&args[i])
		args[i] = atom("spoilt")
	}
	does(t, w, api.OK, slice(0, 9), tick(1), slice(0, 9))
	x, y := begin()[0], begin()[1]
	tells(t, w, entire(x)+" "+entire(y)+"; 1 "+entire(term.Cons(x, y)))
	if !reflect.DeepEqual(p, source(t, "f(X, Y) -> receive go -> 1 after 1 -> print(X), print(Y), exit([X | Y]) end.")) {
		t.Error("the program was changed")
	}
}

// R3: what a process has printed, sent, ended with, is not changed by what becomes of it elsewhere.
func TestTermsApart(t *testing.T) {
	w := begun(t, "f(X) -> print(X), P = spawn(fun () -> receive Y -> print(Y), exit(Y) end end), monitor(P), P ! X, receive Z -> print(Z) end, print(X), exit(X).", list(tuple(num(1<<40)), num(5)))
	for range 40 {
		does(t, w, api.OK, slice(0, 1), slice(1, 1))
		s := w.See()
		for i := range s.Out {
			spoil(&s.Out[i])
		}
		for i := range s.Ended {
			spoil(&s.Ended[i].Reason)
		}
	}
	x := "[{1099511627776},5]"
	tells(t, w, x+" "+x+" {'DOWN',#Ref<1>,process,<2>,"+x+"} "+x+"; 2 "+x+", 1 "+x)
}

// R4: worlds of one program stand apart, and what is asked twice is answered alike.
func TestWorldsApart(t *testing.T) {
	p := source(t, "f() -> register(a, self()), print({make_ref(), now()}), receive X -> X after 2 -> print(late) end.")
	a, b := of(t, p, 6), of(t, p, enough)
	starts(t, a, "f", nil, api.OK)
	does(t, a, api.OK, slice(0, 9), tick(1))
	sees(t, b, "; ; ; v1 s0 c0")
	starts(t, b, "f", nil, api.OK)
	starts(t, b, "f", nil, api.OK)
	does(t, b, api.OK, slice(1, 9), tick(2), kill(1))
	sees(t, a, "{#Ref<1>,0}; ; a=1; v2 s6 c1")
	sees(t, a, "{#Ref<1>,0}; ; a=1; v2 s6 c1")
	sees(t, b, "{#Ref<1>,0}; 1 killed; a=2; v4 s6 c2")
	areReady(t, a)
	areReady(t, b, 2)
}

// R5
func TestNone(t *testing.T) {
	isNone := func(what string, w *model.World) {
		t.Helper()
		for range 2 {
			for _, args := range [][]api.Term{nil, {num(1)}, {{}}, flaws()} {
				for _, f := range []string{"f", "", "g"} {
					if e := w.Start(f, args); e != api.ErrNil {
						t.Errorf("%s: Start: %d", what, e)
					}
				}
			}
			for kind := range 8 {
				for _, k := range []int{0, 1, -1} {
					if e := w.Do(api.Step{Kind: api.StepKind(kind), K: k, N: k}); e != api.ErrNil {
						t.Errorf("%s: Do of %d: %d", what, kind, e)
					}
				}
			}
			if s := w.See(); !reflect.DeepEqual(s, api.Seen{}) {
				t.Errorf("%s: See: %v", what, s)
			}
			if l := w.Ready(); l != nil {
				t.Errorf("%s: Ready: %v", what, l)
			}
		}
	}
	isNone("nil", nil)
	isNone("one that nobody made", &model.World{})
	isNone("another one", new(model.World))
	isNone("where there is none", model.New(api.Program{}, -1))
	w := begun(t, "f() -> print(a), receive X -> X end.")
	does(t, w, api.OK, slice(0, 9))
	value := *w
	isNone("a value in another place", &value)
	sees(t, w, "a; ; ; v2 s2 c0")
	value = model.World{}
	*w = value
	isNone("one that was made nothing", w)
}

// A World has the chapter's calls, and nothing else that another package can say: of none that is nil something else would have to be told.
func TestFace(t *testing.T) {
	of := reflect.TypeFor[*model.World]()
	var names []string
	for i := range of.NumMethod() {
		names = append(names, of.Method(i).Name)
	}
	if !reflect.DeepEqual(names, []string{"Do", "Ready", "See", "Start"}) {
		t.Error("calls:", names)
	}
	for _, f := range reflect.VisibleFields(of.Elem()) {
		if f.IsExported() {
			t.Error("field:", f.Name)
		}
	}
}
