package step_test

import (
	"runtime"
	"runtime/debug"
	"slices"
	"strconv"
	"testing"

	"pigeonhole/api"
	"pigeonhole/mail"
	"pigeonhole/step"
)

// wrapped is a node in so many others, one in another.
func wrapped(c api.Core, deep int, wrap func(c api.Core) api.Core) api.Core {
	for range deep {
		c = wrap(c)
	}
	return c
}

// R1: nodes may be deeper than a stack has room for.
func TestDeepNodes(t *testing.T) {
	defer debug.SetMaxStack(debug.SetMaxStack(1 << 20))
	const deep = 25_000
	wraps := map[string]struct {
		wrap func(c api.Core) api.Core
		ends string // with a value, and with an error
		took int    // for each
	}{
		"case":          {func(c api.Core) api.Core { return cases(c, clause(wild(), one())) }, "normal", 0},
		"clauses":       {func(c api.Core) api.Core { return cases(one(), clause(wild(), c)) }, "normal", 0},
		"try":           {func(c api.Core) api.Core { return try(c, clause(is(num(7)), one())) }, "normal", 0},
		"tried":         {func(c api.Core) api.Core { return try(bad("a"), clause(wild(), c)) }, "normal", 0},
		"let":           {func(c api.Core) api.Core { return let(0, c, one()) }, "normal", 0},
		"bif":           {func(c api.Core) api.Core { return bif("is_atom", c) }, "normal", 1},
		"behind others": {func(c api.Core) api.Core { return bif("==", one(), c) }, "normal", 1},
		"ahead":         {func(c api.Core) api.Core { return bif("==", c, one()) }, "normal", 1},
		"tuple":         {func(c api.Core) api.Core { return row(one(), c) }, "system_limit", 0},
		"list":          {func(c api.Core) api.Core { return cell(c, one()) }, "system_limit", 0},
		"call":          {func(c api.Core) api.Core { return call(1, c) }, "normal", 1},
		"late":          {func(c api.Core) api.Core { return within(the(num(0)), c) }, "normal", 1},
	}
	other := function(1, x(0))
	for name, w := range wraps {
		for inside, ends := range map[string]string{"value": w.ends, "error": "inner"} {
			c := one()
			if inside == "error" {
				c = bad("inner")
			}
			proc, m := begun(t, program(t, function(0, wrapped(c, deep, w.wrap)), other))
			want := "ends " + ends + " took " + strconv.Itoa(w.took*deep)
			if inside == "error" && name != "late" {
				want = "ends inner took 0"
			}
			if got := shown(proc.Run(1<<30, m)); got != want {
				t.Errorf("%s, %s: %s, not %s", name, inside, got, want)
			}
		}
	}
}

// R1: nodes may have many kids, and one node may stand in many places of memory at once.
func TestWideAndCommonNodes(t *testing.T) {
	tells(t, row(times(100_000, one())...), nil, "ends system_limit, took 0")
	clauses := append([]api.Core{one()}, times(30_000, clause(is(num(7)), one()))...)
	tells(t, cases(clauses...), nil, "ends case_clause, took 0")
	shared := bif("is_atom", one())
	for range 12 {
		shared = row(times(2, shared)...)
	}
	tells(t, shared, nil, "ends system_limit, took 4096")
	twice := bif("is_atom", one())
	for range 14 {
		twice = cases(twice, clause(wild(), twice))
	}
	tells(t, twice, nil, "ends normal, took 16384")
}

// heapAlloc is how many bytes are in use.
func heapAlloc() int {
	runtime.GC()
	var s runtime.MemStats
	runtime.ReadMemStats(&s)
	return int(s.HeapAlloc)
}

// Words: what calls another function as the last thing keeps nothing for it: such a loop goes on and on in the same room.
func TestLoopsInTheSameRoom(t *testing.T) {
	for _, src := range []string{
		"f(X) -> f(X + 1).",
		"f(X) -> Y = X + 1, Z = {Y, Y}, case Z of {A, A} -> f(A) end.",
		"f(X) -> if X > 0 -> g(X); X == 0 -> f(X) end. g(X) -> h(X, fun (Y) -> f(Y) end). h(X, F) -> F(X).",
		"f(X) -> receive never -> 1 after 0 -> f(X) end.",
		"f(X) -> X == 0 orelse f(X).",
		"f(X) -> try throw(a) catch throw : Y -> f({Y}) end.",
		"f(X) -> receive X -> f(X) after 0 -> begin [X], f(X) end end.",
	} {
		proc, m := begun(t, source(t, src), num(1))
		comes(t, proc, 2_000, m, "spent took 2000")
		before := heapAlloc()
		comes(t, proc, 60_000, m, "spent took 60000")
		if more := heapAlloc() - before; more > 200_000 {
			t.Errorf("%s: %d bytes more", src, more)
		}
		runtime.KeepAlive(proc)
	}
}

// R1: functions that call themselves ahead of something else may go deep.
func TestDeepCalls(t *testing.T) {
	defer debug.SetMaxStack(debug.SetMaxStack(1 << 20))
	proc, m := begun(t, source(t, "f(N) -> exit(g(N)). g(0) -> 0; g(N) -> 1 + g(N - 1)."), num(100_000))
	comes(t, proc, 1<<30, m, "ends 100000 took 300002")
	proc, m = begun(t, source(t, "f(N) -> g(N). g(0) -> exit(bottom); g(N) -> try g(N - 1), N catch throw : _ -> 1 end."), num(100_000))
	comes(t, proc, 1<<30, m, "ends bottom took 200002")
	// What stands on the stack holds no more than what is wanted of it.
	proc, m = begun(t, source(t, "f(N) -> g(seq(1, N)). g([]) -> receive a -> 0 end; g([H | T]) -> H + g(T)."), num(1300))
	before := heapAlloc()
	comes(t, proc, 1<<30, m, "waits took 1303")
	if more := heapAlloc() - before; more > 2_000_000 {
		t.Errorf("%d bytes more", more)
	}
	runtime.KeepAlive(proc)
}

// LANGUAGE 8: a process that waits keeps what it has asked for, called, raised and given back no more.
func TestWaitingKeepsLittle(t *testing.T) {
	for _, src := range []string{
		"f() -> print(seq(1, 1300)), receive a -> 0 end.",
		"f() -> receive a -> 0 after length(seq(1, 1300)) -> 0 end.",
		"f() -> case seq(1, 1300) of _ -> receive a -> 0 end end.",
		"f() -> g(seq(1, 1300)), receive a -> 0 end. g(_) -> 0.",
		"f() -> try throw(seq(1, 1300)) catch throw : _ -> 0 end, receive a -> 0 end.",
		"f() -> try (seq(1, 1300))(1) catch error : _ -> 0 end, receive a -> 0 end.",
		"f() -> g(20), receive a -> 0 end. g(0) -> 0; g(N) -> second(seq(1, 1300), g(N - 1)). second(_, X) -> X.",
	} {
		p := source(t, src)
		var waiting []*step.Proc
		before := heapAlloc()
		for range 20 {
			proc, m := begun(t, p)
			if e := proc.Run(1<<30, m); e.Kind == step.Asks {
				answers(t, proc, num(1), api.OK)
				e = proc.Run(1<<30, m)
			}
			comes(t, proc, 1, m, "waits took 0")
			waiting = append(waiting, proc)
		}
		if more := heapAlloc() - before; more > 300_000 {
			t.Errorf("%s: %d bytes", src, more)
		}
		runtime.KeepAlive(waiting)
	}
}

// Variables that are handed on are not copied, however deep.
func TestVariablesAreShared(t *testing.T) {
	// f(L, 0) waits, f(L, N) is a tuple of f(L, N - 1) and L.
	body := cases(x(1), clause(is(num(0)), receive(clause(wild(), one()))), clause(wild(), row(call(0, x(0), bif("-", x(1), one())), x(0))))
	proc, m := begun(t, program(t, function(2, body)), great(4000), num(200))
	before := heapAlloc()
	comes(t, proc, 1<<30, m, "waits took 401")
	if more := heapAlloc() - before; more > 10_000_000 {
		t.Errorf("%d bytes more", more)
	}
	runtime.KeepAlive(proc)
}

// What has ended keeps nothing.
func TestEndedKeepsNothing(t *testing.T) {
	var ended []*step.Proc
	before := heapAlloc()
	for range 20 {
		proc, m := begun(t, source(t, "f(N) -> g(N, 1 + 1). g(0, _) -> exit(done); g(N, X) -> X + g(N - 1, {N})."), num(2000))
		comes(t, proc, 1<<30, m, "ends done took 4003")
		ended = append(ended, proc)
	}
	if more := heapAlloc() - before; more > 100_000 {
		t.Errorf("%d bytes", more)
	}
	runtime.KeepAlive(ended)
}

// Limits: boxes with as many letters as there may be.
func TestManyLetters(t *testing.T) {
	p := source(t, "f(0) -> exit(done); f(N) -> receive {get, N} -> f(N - 1) end.")
	proc, m := begun(t, p, num(2))
	for _, n := range numbers(1, api.MaxMessages-2) {
		put(t, m, n)
	}
	put(t, m, tuple(atom("get"), num(1)))
	comes(t, proc, 100, m, "waits took 1")
	put(t, m, tuple(atom("get"), num(2)))
	if m.Put(num(1)) != api.ErrFull {
		t.Error("not full")
	}
	comes(t, proc, 100, m, "ends done took 6")
	if m.Len() != api.MaxMessages-2 {
		t.Error(m.Len())
	}
}

// Limits: functions with as many variables as there may be, and programs with as many functions.
func TestManyVariablesAndFunctions(t *testing.T) {
	body := bif("exit", row(x(0), x(50), x(api.MaxVars-1)))
	for i := range api.MaxVars {
		n := api.MaxVars - 1 - i
		body = let(n, the(num(int64(n))), body)
	}
	tells(t, body, nil, "ends {0,50,99}, took 1")
	pattern := pats()
	items := tuple()
	for i := range api.MaxVars {
		pattern.Kids, items.Items = append(pattern.Kids, bind(i)), append(items.Items, num(int64(i)))
	}
	tells(t, cases(the(items), clause(pattern, bif("exit", row(x(0), x(50), x(api.MaxVars-1))))), nil, "ends {0,50,99}, took 1")

	funcs := make([]api.Func, api.MaxCode)
	for i := range funcs {
		funcs[i] = function(1, call((i+1)%api.MaxCode, bif("+", x(0), one())))
	}
	funcs[api.MaxCode-1].Body = bif("exit", x(0))
	proc, m := begun(t, program(t, funcs...), num(0))
	comes(t, proc, 1<<30, m, "ends "+strconv.Itoa(api.MaxCode-1)+" took "+strconv.Itoa(2*api.MaxCode-1))
}

// R1: many arguments, and funs with many Items, are refused as few are.
func TestManyArguments(t *testing.T) {
	p := program(t, function(1, x(0)))
	if step.New(p, fun(0), make([]api.Term, 1<<20)) != nil || step.New(p, fun(0, make([]api.Term, 1<<20)...), nil) != nil {
		t.Error("a process")
	}
	if step.New(p, fun(0), slices.Repeat([]api.Term{num(1)}, 13)) != nil {
		t.Error("a process")
	}
	// Terms that are without number as a tree.
	double := list(num(1))
	for range 100 {
		double = list(double, double)
	}
	if step.New(p, fun(0), []api.Term{double}) != nil {
		t.Error("a process")
	}
	proc, _ := begun(t, program(t, function(0, bif("self"))))
	comes(t, proc, 1, mail.New(), "asks self() took 1")
	answers(t, proc, double, api.ErrArg)
	raises(t, proc, tuple(atom("error"), double), api.ErrArg)
}
