package model_test

import (
	"math"
	"strings"
	"testing"

	"pigeonhole/api"
	"pigeonhole/model"
	"pigeonhole/sound"
	"pigeonhole/term"
)

func constant(t api.Term) api.Core { return api.Core{Kind: api.CoreConst, Term: t} }

func variable(n int) api.Core { return api.Core{Kind: api.CoreVar, Num: n} }

func ask(name string, kids ...api.Core) api.Core {
	return api.Core{Kind: api.CoreBif, Text: name, Kids: kids}
}

// P17.1: with which fuel there is a world.
func TestNewFuel(t *testing.T) {
	p := source(t, "f(X) -> print(X + 1).")
	for _, fuel := range []int{0, 1, 2, 3, 9, 1 << 20, math.MaxInt32 - 1, math.MaxInt32} {
		w := of(t, p, fuel)
		sees(t, w, "; ; ; v1 s0 c0")
		areReady(t, w)
		starts(t, w, "f", []api.Term{num(41)}, api.OK)
		areReady(t, w, 1)
		does(t, w, api.OK, slice(0, 9))
		want := map[int]string{0: "; ; ; v3 s0 c0", 1: "; ; ; v3 s1 c0"}[fuel]
		if want == "" {
			want = "42; 1 normal; ; v1 s2 c0"
		}
		sees(t, w, want)
	}
	for _, fuel := range []int{-1, -2, math.MinInt32, math.MinInt, math.MaxInt32 + 1, math.MaxInt32 + 2, 1 << 32, 1<<32 + 5, math.MaxInt} {
		if model.New(p, fuel) != nil {
			t.Errorf("there is a world with fuel %d", fuel)
		}
	}
}

// P17.1: of which programs there is a world.
func TestNewProgram(t *testing.T) {
	good := api.Func{Name: "f", Body: constant(atom("a"))}
	many := make([]api.Func, api.MaxCode+1)
	for i := range many {
		many[i] = good
	}
	for _, c := range []struct {
		what  string
		funcs []api.Func
		ok    bool
	}{
		{"no functions", nil, true},
		{"one", []api.Func{good}, true},
		{"as many as may be", many[1:], true},
		{"one more", many, false},
		{"a variable that is not bound", []api.Func{good, {Name: "f", Vars: 1, Body: variable(0)}}, false},
		{"nothing", []api.Func{{}}, false},
		{"a call of none", []api.Func{{Body: api.Core{Kind: api.CoreCall, Num: 1}}}, false},
		{"a name that is none", []api.Func{{Name: strings.Repeat("a", api.MaxName+1), Body: constant(num(1))}}, false},
		{"no such built in", []api.Func{{Body: ask("self", constant(num(1)))}}, false},
		{"more captured than there are", []api.Func{{Extra: 1, Body: constant(num(1))}}, false},
	} {
		p := api.Program{Funcs: c.funcs}
		if ok := sound.Check(p) == api.OK; ok != c.ok {
			t.Fatal(c.what, "is sound:", ok)
		}
		for _, fuel := range []int{0, 5, -1} {
			if w := model.New(p, fuel); (w != nil) != (c.ok && fuel >= 0) {
				t.Errorf("%s, %d: there is a world: %v", c.what, fuel, w != nil)
			}
		}
	}
	w := of(t, api.Program{}, 5)
	starts(t, w, "f", nil, api.ErrNone)
	starts(t, w, "", nil, api.ErrNone)
	sees(t, w, "; ; ; v1 s0 c0")
}

// P17.1: what Start refuses, and which function a process begins with.
func TestStart(t *testing.T) {
	// A number tells which of the functions it was.
	function := func(name string, extra, arity int, n int64) api.Func {
		return api.Func{Name: name, Extra: extra, Arity: arity, Vars: arity, Body: ask("print", constant(num(n)))}
	}
	p := api.Program{Funcs: []api.Func{
		function("", 0, 0, 0), function("g", 1, 1, 1), function("f", 1, 2, 2), function("f", 0, 0, 3), function("f", 0, 2, 4), function("f", 0, 2, 5),
		function("f", 0, 12, 6), function("a b", 0, 1, 7), function("f", 0, 0, 8), function("f", 2, 2, 9), function("", 0, 1, 10), function("h", 1, 1, 11),
		function("h", 0, 1, 12), function("\x00", 0, 1, 13), function("\x00\x00", 0, 1, 14),
	}}
	for _, c := range []struct {
		name string
		args int
		err  api.Errno
		want string
	}{
		{"f", 0, api.OK, "3"}, {"f", 2, api.OK, "4"}, {"f", 12, api.OK, "6"}, {"a b", 1, api.OK, "7"}, {"h", 1, api.OK, "12"}, {"\x00", 1, api.OK, "13"}, {"\x00\x00", 1, api.OK, "14"},
		{"f", 1, api.ErrNone, ""}, {"f", 3, api.ErrNone, ""}, {"f", 11, api.ErrNone, ""}, {"f", 13, api.ErrNone, ""}, {"f", 5000, api.ErrNone, ""},
		{"g", 0, api.ErrNone, ""}, {"g", 1, api.ErrNone, ""}, {"", 0, api.ErrNone, ""}, {"", 1, api.ErrNone, ""}, {"F", 0, api.ErrNone, ""}, {"ff", 0, api.ErrNone, ""}, {"f ", 0, api.ErrNone, ""}, {"a", 1, api.ErrNone, ""}, {"h", 0, api.ErrNone, ""},
		{strings.Repeat("f", 1<<20), 0, api.ErrNone, ""},
	} {
		w := of(t, p, enough)
		args := make([]api.Term, c.args)
		for i := range args {
			args[i] = kinds()[i%len(kinds())]
		}
		starts(t, w, c.name, args, c.err)
		if c.err == api.OK {
			areReady(t, w, 1)
			sees(t, w, "; ; ; v4 s0 c0")
			rest(t, w)
			sees(t, w, c.want+"; 1 normal; ; v1 s1 c0")
		} else {
			sees(t, w, "; ; ; v1 s0 c0")
		}
		if c.args > 0 {
			for _, i := range []int{0, c.args / 2, c.args - 1} {
				args[i] = flaws()[i%len(flaws())]
				starts(t, w, c.name, args, api.ErrArg)
				args[i] = atom("a")
			}
		}
	}
}

// P17.1: a process begins with just these arguments, of any kind; what is no right term is none.
func TestStartArguments(t *testing.T) {
	p := source(t, "f(X) -> print(X). f(X, Y) -> print(Y), print(X). g(A, B, C, D, E, F, G, H, I, J, K, L) -> print([L, K, J, I, H, G, F, E, D, C, B, A]).")
	for i, x := range kinds() {
		w := of(t, p, enough)
		starts(t, w, "f", []api.Term{x}, api.OK)
		rest(t, w)
		tells(t, w, entire(x)+"; 1 normal")
		if term.Size(x) == api.MaxSize { // with another one it is too great for a head of two
			continue
		}
		starts(t, w, "f", []api.Term{x, num(int64(i))}, api.OK)
		rest(t, w)
		tells(t, w, entire(x)+" "+entire(num(int64(i)))+" "+entire(x)+"; 1 normal, 2 normal")
	}
	for _, x := range flaws() {
		w := of(t, p, enough)
		for _, args := range [][]api.Term{{x}, {x, x}, {atom("a"), x}, {x, atom("a")}, {x, x, x}} {
			for _, f := range []string{"f", "g", "none", ""} {
				starts(t, w, f, args, api.ErrArg)
			}
		}
		sees(t, w, "; ; ; v1 s0 c0")
	}
	w := of(t, p, enough)
	var twelve []api.Term
	for i := range int64(12) {
		twelve = append(twelve, num(i+1))
	}
	starts(t, w, "g", twelve, api.OK)
	rest(t, w)
	tells(t, w, "[12,11,10,9,8,7,6,5,4,3,2,1]; 1 normal")
}

// P17.1: at MaxProcs alive nobody is started; which error comes first. Pids go on behind those that have ended.
func TestStartFull(t *testing.T) {
	p := source(t, "f() -> receive X -> X end. g(X) -> X.")
	w := of(t, p, enough)
	for range api.MaxProcs {
		starts(t, w, "f", nil, api.OK)
	}
	full := func() {
		t.Helper()
		starts(t, w, "f", nil, api.ErrFull)
		starts(t, w, "g", []api.Term{num(1)}, api.ErrFull)
		starts(t, w, "g", []api.Term{{}}, api.ErrArg)
		starts(t, w, "h", []api.Term{{}}, api.ErrArg)
		starts(t, w, "h", []api.Term{num(1)}, api.ErrNone)
		starts(t, w, "", nil, api.ErrNone)
		if n := len(w.Ready()); n != api.MaxProcs {
			t.Errorf("%d are ready", n)
		}
	}
	full()
	does(t, w, api.OK, kill(7))
	starts(t, w, "g", []api.Term{num(1)}, api.OK)
	full()
	does(t, w, api.OK, slice(-1, 1)) // the newest one ends
	tells(t, w, "; 7 killed, 33 normal")
	does(t, w, api.OK, kill(32), kill(1))
	for range 3 {
		starts(t, w, "f", nil, api.OK)
	}
	full()
	if l := w.Ready(); l[0] != 2 || l[len(l)-4] != 31 || l[len(l)-1] != 36 {
		t.Error("ready are", l)
	}
}
