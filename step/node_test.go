package step_test

import (
	"strings"
	"testing"

	"pigeonhole/api"
	"pigeonhole/lint"
	"pigeonhole/term"
)

// Words: Const, Var.
func TestConstantsAndVariables(t *testing.T) {
	for _, v := range kinds() {
		reckons(t, the(v), nil, v, 0)
		reckons(t, x(0), []api.Term{v}, v, 0)
		reckons(t, x(1), []api.Term{num(7), v, num(8)}, v, 0)
	}
	for i := range api.MaxArity {
		reckons(t, x(i), numbers(0, api.MaxArity), num(int64(i)), 0)
	}
}

// Words: Tuple.
func TestTuples(t *testing.T) {
	reckons(t, row(), nil, tuple(), 0)
	for _, v := range kinds()[:len(kinds())-1] {
		reckons(t, row(the(v)), nil, tuple(v), 0)
		reckons(t, row(x(0), one(), x(0)), []api.Term{v}, tuple(v, num(1), v), 0)
	}
	reckons(t, row(row(), row(one(), row())), nil, tuple(tuple(), tuple(num(1), tuple())), 0)
	limit := atom("system_limit")
	reckons(t, row(x(0)), []api.Term{great(api.MaxSize - 1)}, tuple(great(api.MaxSize-1)), 0)
	errs(t, row(x(0)), []api.Term{great(api.MaxSize)}, "error", limit, 0)
	reckons(t, row(x(0), x(0)), []api.Term{great(2047)}, tuple(great(2047), great(2047)), 0)
	errs(t, row(x(0), x(0)), []api.Term{great(2048)}, "error", limit, 0)
	reckons(t, row(times(api.MaxSize-1, the(atom("a")))...), nil, great(api.MaxSize), 0)
	errs(t, row(times(api.MaxSize, the(atom("a")))...), nil, "error", limit, 0)
	errs(t, row(times(100_000, the(atom("a")))...), nil, "error", limit, 0)
	// What would be too great within it is an error at once.
	tells(t, row(say(1), row(the(great(api.MaxSize))), say(2)), nil, "asks print(1), ends system_limit, took 1")
}

// Words: Cons.
func TestLists(t *testing.T) {
	for _, h := range kinds() {
		for _, r := range kinds() {
			if want := term.Cons(h, r); want.Kind != 0 {
				reckons(t, cell(the(h), x(0)), []api.Term{r}, want, 0)
			} else {
				errs(t, cell(the(h), x(0)), []api.Term{r}, "error", atom("system_limit"), 0)
			}
		}
	}
	reckons(t, cell(one(), cell(the(num(2)), the(list()))), nil, list(num(1), num(2)), 0)
	reckons(t, cell(one(), cell(the(num(2)), the(num(3)))), nil, improper(num(3), num(1), num(2)), 0)
	limit := atom("system_limit")
	reckons(t, cell(x(0), the(list())), []api.Term{great(api.MaxSize - 2)}, list(great(api.MaxSize-2)), 0)
	errs(t, cell(x(0), the(list())), []api.Term{great(api.MaxSize - 1)}, "error", limit, 0)
	reckons(t, cell(the(atom("a")), x(0)), []api.Term{great(api.MaxSize - 3)}, improper(great(api.MaxSize-3), atom("a")), 0)
	errs(t, cell(the(atom("a")), x(0)), []api.Term{great(api.MaxSize - 2)}, "error", limit, 0)
	// A list of as many items as there may be, and of one more.
	items := list(times(2047, atom("a"))...)
	reckons(t, cell(the(atom("a")), x(0)), []api.Term{list(items.Items[1:]...)}, items, 0)
	errs(t, cell(the(atom("a")), x(0)), []api.Term{items}, "error", limit, 0)
}

// Words: Fun.
func TestFuns(t *testing.T) {
	three := []api.Func{lambda(0, 2, one()), lambda(1, 1, one()), lambda(3, 3, one())}
	reckons(t, closure(0), nil, fun(0), 0)
	reckons(t, closure(1), nil, fun(1), 0, three...)
	reckons(t, closure(2, x(0)), []api.Term{num(5)}, fun(2, num(5)), 0, three...)
	reckons(t, closure(3, x(1), x(0), x(1)), []api.Term{num(5), atom("b")}, fun(3, atom("b"), num(5), atom("b")), 0, three...)
	reckons(t, closure(2, x(0)), []api.Term{great(api.MaxSize - 2)}, fun(2, great(api.MaxSize-2)), 0, three...)
	errs(t, closure(2, x(0)), []api.Term{great(api.MaxSize - 1)}, "error", atom("system_limit"), 0, three...)
}

// Words: Let.
func TestLets(t *testing.T) {
	reckons(t, let(0, one(), x(0)), nil, num(1), 0)
	reckons(t, let(99-1, one(), row(x(98), x(0))), []api.Term{num(5)}, tuple(num(1), num(5)), 0)
	reckons(t, let(1, x(0), let(2, row(x(1)), row(x(0), x(1), x(2)))), []api.Term{num(5)}, tuple(num(5), num(5), tuple(num(5))), 0)
	// A variable has its value in the second kid alone: elsewhere it may have another one.
	reckons(t, row(let(0, one(), row(x(0))), let(0, the(num(2)), row(x(0)))), nil, tuple(tuple(num(1)), tuple(num(2))), 0)
	reckons(t, let(0, let(0, one(), row(x(0))), row(x(0))), nil, tuple(tuple(num(1))), 0)
	tells(t, let(0, say(1), row(say(2), x(0), say(3))), nil, "asks print(1), asks print(2), asks print(3), ends normal, took 3")
	tells(t, let(0, bad("a"), say(1)), nil, "ends a, took 0")
	tells(t, let(0, say(1), bad("a")), nil, "asks print(1), ends a, took 1")
}

// Words: Call.
func TestCalls(t *testing.T) {
	pair := function(2, row(x(1), x(0)))
	reckons(t, call(1, one(), the(num(2))), nil, tuple(num(2), num(1)), 1, pair)
	reckons(t, call(1), nil, num(1), 1, function(0, one()))
	reckons(t, call(1, call(1, one(), one()), call(1, one(), x(0))), []api.Term{num(9)}, tuple(tuple(num(9), num(1)), tuple(num(1), num(1))), 3, pair)
	errs(t, call(1), nil, "error", atom("b"), 1, function(0, bad("b")))
	// Behind the call the caller's variables are as they were.
	reckons(t, row(call(1, one(), one()), x(0)), []api.Term{num(9)}, tuple(tuple(num(1), num(1)), num(9)), 1, pair)
	// Twelve parameters.
	var kids, turned []api.Core
	for i := range api.MaxArity {
		kids, turned = append(kids, the(num(int64(i)))), append(turned, x(api.MaxArity-1-i))
	}
	value, _, _ := outcome(t, call(1, kids...), nil, function(api.MaxArity, row(turned...)))
	if entire(value) != "{11,10,9,8,7,6,5,4,3,2,1,0}" {
		t.Error(entire(value))
	}
	// A function that calls itself has variables of its own each time.
	p := source(t, "f(N) -> exit(g(N)). g(0) -> []; g(N) -> [N | g(N - 1) ++ [N]].")
	proc, m := begun(t, p, num(3))
	comes(t, proc, 100, m, "ends [3,2,1,1,2,3] took 11")
}

// Words: Apply.
func TestApplies(t *testing.T) {
	// The functions 1 to 4: none, one captured, one of two captured, two parameters.
	others := []api.Func{lambda(0, 0, the(atom("none"))), lambda(1, 1, row(x(0))), lambda(1, 3, row(x(2), x(1), x(0))), lambda(0, 2, row(x(1), x(0)))}
	on := func(f api.Term, args ...api.Core) api.Core { return apply(append([]api.Core{the(f)}, args...)...) }
	reckons(t, on(fun(1)), nil, atom("none"), 1, others...)
	reckons(t, on(fun(2, num(7))), nil, tuple(num(7)), 1, others...)
	reckons(t, on(fun(3, num(7)), one(), the(num(2))), nil, tuple(num(2), num(1), num(7)), 1, others...)
	reckons(t, on(fun(4), one(), the(num(2))), nil, tuple(num(2), num(1)), 1, others...)
	reckons(t, apply(closure(3, x(0)), one(), x(0)), []api.Term{num(9)}, tuple(num(9), num(1), num(9)), 1, others...)
	// Funs that fit for no such call: too few, too many arguments, too few, too many captured ones (though they are as many together), no such function.
	for _, c := range []struct {
		f    api.Term
		args int
	}{
		{fun(1), 1}, {fun(1), 12}, {fun(1, num(1)), 0}, {fun(2), 0}, {fun(2), 1}, {fun(2, num(1)), 1}, {fun(2, num(1), num(2)), 0},
		{fun(3, num(1)), 1}, {fun(3, num(1)), 3}, {fun(3), 3}, {fun(3, num(1), num(2)), 1}, {fun(3, num(1), num(2), num(3)), 0},
		{fun(4), 0}, {fun(4), 1}, {fun(4), 3}, {fun(4, num(1)), 1}, {fun(4, num(1), num(2)), 0},
		{fun(5), 0}, {fun(5), 1}, {fun(api.MaxCode), 0},
	} {
		errs(t, on(c.f, times(c.args, one())...), nil, "error", tuple(atom("badarity"), c.f), 1, others...)
	}
	// What is no fun.
	for _, f := range kinds() {
		if f.Kind == api.Fun || term.Size(f) > 1000 {
			continue
		}
		for args := range 3 {
			errs(t, on(f, times(args, one())...), nil, "error", tuple(atom("badfun"), f), 1, others...)
		}
	}
	// What the error tells may be too great for a term.
	for _, size := range []int{api.MaxSize - 4, api.MaxSize - 3, api.MaxSize - 2, api.MaxSize - 1, api.MaxSize} {
		notFun, isFun := great(size), fun(1, great(size-2))
		badFun, badArity := tuple(atom("badfun"), notFun), tuple(atom("badarity"), isFun)
		if size > api.MaxSize-4 {
			badFun, badArity = atom("system_limit"), atom("system_limit")
		}
		errs(t, apply(x(0)), []api.Term{notFun}, "error", badFun, 1, others...)
		errs(t, apply(x(0)), []api.Term{isFun}, "error", badArity, 1, others...)
	}
}

// Words: Bif, of Kind Pure and Guards: what bif.Call tells.
func TestBuiltIn(t *testing.T) {
	reckons(t, bif("+", one(), x(0)), []api.Term{num(41)}, num(42), 1)
	reckons(t, bif("reverse", x(0)), []api.Term{list(num(1), num(2))}, list(num(2), num(1)), 1)
	reckons(t, bif("setelement", one(), x(0), x(0)), []api.Term{tuple(num(5))}, tuple(tuple(num(5))), 1)
	reckons(t, bif("hd", bif("tl", x(0))), []api.Term{list(num(1), num(2))}, num(2), 2)
	errs(t, bif("+", one(), x(0)), []api.Term{atom("a")}, "error", atom("badarith"), 1)
	errs(t, bif("hd", x(0)), []api.Term{list()}, "error", atom("badarg"), 1)
	errs(t, bif("seq", one(), x(0)), []api.Term{num(1 << 40)}, "error", atom("system_limit"), 1)
	for _, class := range []string{"error", "exit", "throw"} {
		for _, reason := range kinds() {
			if term.Size(reason) > 1000 {
				continue
			}
			errs(t, bif(class, x(0)), []api.Term{reason}, class, reason, 1)
		}
		errs(t, bif(class, x(0)), []api.Term{great(api.MaxSize - 2)}, class, great(api.MaxSize-2), 1)
		errs(t, bif(class, x(0)), []api.Term{great(api.MaxSize - 1)}, "error", atom("system_limit"), 1)
	}
}

// Words: Bif: of each name of so many arguments the world is asked just if its Kind is World.
func TestWorldIsAsked(t *testing.T) {
	const names = "+ - * div rem == /= =:= =/= < =< > >= and or xor not abs hd tl length tuple_size is_integer is_atom is_tuple is_list is_pid is_reference is_function is_boolean element ++ -- max min nth nthtail member seq setelement tuple_to_list list_to_tuple atom_to_list list_to_atom integer_to_list list_to_integer reverse sum sort usort last throw error exit self make_ref now spawn spawn_link spawn_monitor link unlink monitor demonitor trap_exit unregister whereis print ! register"
	asked := 0
	for _, name := range strings.Fields(names) {
		for arity := range 4 {
			if lint.Kind(name, arity) == lint.None {
				continue
			}
			var kids []api.Core
			for _, n := range numbers(1, arity) {
				kids = append(kids, the(n))
			}
			proc, m := begun(t, program(t, function(0, bif(name, kids...))))
			got := shown(proc.Run(1, m))
			if lint.Kind(name, arity) != lint.World {
				if !strings.HasPrefix(got, "ends ") || !strings.HasSuffix(got, " took 1") {
					t.Error(name, arity, got)
				}
				continue
			}
			asked++
			if want := "asks " + name + []string{"()", "(1)", "(1,2)"}[arity] + " took 1"; got != want {
				t.Errorf("%s, not %s", got, want)
			}
		}
	}
	if asked != 17 {
		t.Error("asked:", asked)
	}
}

// Words: Case: the first clause that takes the value, of several.
func TestCases(t *testing.T) {
	three := func(e api.Core) api.Core {
		return cases(e, clause(is(num(1)), the(atom("first"))), guarded(bind(10), bif(">", x(10), the(num(5))), row(the(atom("above")), x(10))), clause(pats(bind(11), same(11)), row(x(11))))
	}
	reckons(t, three(x(0)), []api.Term{num(1)}, atom("first"), 0)
	reckons(t, three(x(0)), []api.Term{num(6)}, tuple(atom("above"), num(6)), 0)
	reckons(t, three(x(0)), []api.Term{atom("a")}, tuple(atom("above"), atom("a")), 0)
	reckons(t, three(row(x(0), x(0))), []api.Term{num(1)}, tuple(atom("above"), tuple(num(1), num(1))), 0)
	for _, v := range []int64{0, 2, 5} {
		errs(t, three(x(0)), []api.Term{num(v)}, "error", atom("case_clause"), 0)
	}
	last := func(e api.Core) api.Core {
		return cases(e, clause(is(num(1)), one()), guarded(bind(10), bif("==", x(10), the(num(2))), x(10)), clause(pats(bind(10), same(10)), row(x(10))))
	}
	reckons(t, last(x(0)), []api.Term{tuple(atom("a"), atom("a"))}, tuple(atom("a")), 0)
	errs(t, last(x(0)), []api.Term{tuple(atom("a"), atom("b"))}, "error", atom("case_clause"), 0)
	// A guard that fails takes nothing; it takes no reduction.
	reckons(t, cases(x(0), guarded(wild(), bif("hd", x(0)), one()), clause(wild(), the(num(2)))), []api.Term{num(5)}, num(2), 0)
	reckons(t, cases(x(0), guarded(wild(), bif("is_integer", x(0)), one()), clause(wild(), the(num(2)))), []api.Term{num(5)}, num(1), 0)
	errs(t, cases(x(0), guarded(wild(), bif("hd", x(0)), one())), []api.Term{num(5)}, "error", atom("case_clause"), 0)
	// A pattern may ask for a variable that is bound ahead of it; what a clause that does not take it has bound counts for nothing.
	reckons(t, cases(x(0), clause(pats(same(1), bind(2)), x(2)), clause(pats(bind(2), same(1)), row(x(2)))), []api.Term{tuple(num(5), num(6)), num(6)}, tuple(num(5)), 0)
	reckons(t, cases(x(0), clause(pats(bind(1), is(num(0))), x(1)), clause(bind(1), row(x(1)))), []api.Term{tuple(num(5), num(6))}, tuple(tuple(num(5), num(6))), 0)
	// Many clauses.
	many := []api.Core{x(0)}
	for _, n := range numbers(0, 1000) {
		many = append(many, clause(is(n), row(the(n))))
	}
	reckons(t, cases(many...), []api.Term{num(999)}, tuple(num(999)), 0)
	errs(t, cases(many...), []api.Term{num(1000)}, "error", atom("case_clause"), 0)
	// An error in what is asked about, and in a body.
	errs(t, three(bad("a")), nil, "error", atom("a"), 0)
	errs(t, cases(one(), clause(wild(), bad("b")), clause(wild(), one())), nil, "error", atom("b"), 0)
	tells(t, cases(say(1), clause(is(num(1)), say(2)), clause(wild(), say(3))), nil, "asks print(1), asks print(2), ends normal, took 2")
}

// Words: Try.
func TestTries(t *testing.T) {
	caught := func(e api.Core) api.Core {
		return try(e, clause(pats(is(atom("throw")), bind(10)), row(the(atom("thrown")), x(10))), guarded(pats(bind(11), bind(10)), bif("is_integer", x(10)), row(x(11), x(10))))
	}
	reckons(t, caught(one()), nil, num(1), 0)
	reckons(t, caught(the(tuple(atom("throw"), num(1)))), nil, tuple(atom("throw"), num(1)), 0)
	reckons(t, caught(bif("throw", x(0))), []api.Term{atom("a")}, tuple(atom("thrown"), atom("a")), 1)
	reckons(t, caught(bif("exit", x(0))), []api.Term{num(5)}, tuple(atom("exit"), num(5)), 1)
	reckons(t, caught(bif("error", x(0))), []api.Term{num(5)}, tuple(atom("error"), num(5)), 1)
	errs(t, caught(bif("exit", x(0))), []api.Term{atom("a")}, "exit", atom("a"), 1)
	errs(t, caught(bad("b")), nil, "error", atom("b"), 0)
	errs(t, caught(bif("error", x(0))), []api.Term{tuple(num(5))}, "error", tuple(num(5)), 1)
	// It takes what stands between: frames of nodes, of functions, of other tries that do not take it.
	reckons(t, caught(row(one(), cell(call(1), one()))), nil, tuple(atom("thrown"), num(7)), 2, function(0, row(bif("throw", the(num(7))))))
	reckons(t, caught(row(try(bif("throw", one()), clause(pats(is(atom("exit")), wild()), one())))), nil, tuple(atom("thrown"), num(1)), 1)
	reckons(t, try(row(caught(bif("throw", one()))), clause(wild(), the(atom("outer")))), nil, tuple(tuple(atom("thrown"), num(1))), 1)
	reckons(t, try(caught(bad("b")), clause(bind(12), row(the(atom("outer")), x(12)))), nil, tuple(atom("outer"), tuple(atom("error"), atom("b"))), 0)
	// What its clauses come to is not tried by it.
	errs(t, try(bad("b"), clause(wild(), bad("c")), clause(wild(), one())), nil, "error", atom("c"), 0)
	reckons(t, try(try(bad("b"), clause(wild(), bad("c"))), clause(pats(wild(), bind(10)), x(10))), nil, atom("c"), 0)
	// Nor what is behind it.
	tells(t, row(try(one(), clause(wild(), say(1))), bad("d")), nil, "ends d, took 0")
	tells(t, row(try(bad("b"), clause(wild(), say(1))), bad("d")), nil, "asks print(1), ends d, took 1")
	// Its variables are as they were ahead of what it tries.
	reckons(t, try(let(10, one(), bad("b")), clause(pats(wild(), bind(10)), row(x(10), x(0)))), []api.Term{num(9)}, tuple(atom("b"), num(9)), 0)
	reckons(t, try(call(1, one()), clause(pats(wild(), bind(10)), row(x(10), x(0)))), []api.Term{num(9)}, tuple(atom("b"), num(9)), 1, function(1, bad("b")))
	// Errors of each kind of node.
	for _, e := range []api.Core{row(x(0)), cell(x(0), x(0)), apply(x(0)), fail("a", x(0)), bif("throw", x(0))} {
		value, _, _ := outcome(t, try(e, clause(bind(10), x(10))), []api.Term{great(api.MaxSize)})
		if entire(value) != "{error,system_limit}" {
			t.Error(entire(value))
		}
	}
	tells(t, try(say(1), clause(wild(), say(2))), nil, "asks print(1), ends normal, took 1")
	tells(t, try(row(say(1), bad("a"), say(3)), clause(wild(), say(2))), nil, "asks print(1), asks print(2), ends normal, took 2")
}

// Words: Fail.
func TestFails(t *testing.T) {
	for _, text := range []string{"", "a", "function_clause", strings.Repeat("\xff", api.MaxName)} {
		errs(t, fail(text), nil, "error", atom(text), 0)
		for _, v := range kinds() {
			reason := tuple(atom(text), v)
			if term.Size(v) > 1000 {
				reason = atom("system_limit")
			}
			errs(t, fail(text, x(0)), []api.Term{v}, "error", reason, 0)
		}
	}
	errs(t, fail("a", x(0)), []api.Term{great(api.MaxSize - 4)}, "error", tuple(atom("a"), great(api.MaxSize-4)), 0)
	errs(t, fail("a", x(0)), []api.Term{great(api.MaxSize - 3)}, "error", atom("system_limit"), 0)
	errs(t, fail("a", bad("b")), nil, "error", atom("b"), 0)
	tells(t, fail("a", say(1)), nil, "asks print(1), ends {a,1}, took 1")
}

// Words: kids are reckoned from left to right, and an error in one of them is what comes out.
func TestKidsInOrder(t *testing.T) {
	other := function(3, row(x(2), x(1), x(0)))
	nodes := map[string]struct {
		kids  int
		build func(kids ...api.Core) api.Core
		ends  string // what three, or so many, kids come to
		took  int    // beside the kids
	}{
		"tuple": {3, row, "{1,2,3}", 0},
		"cons":  {2, func(k ...api.Core) api.Core { return cell(k[0], k[1]) }, "[1,|2]", 0},
		"call":  {3, func(k ...api.Core) api.Core { return call(1, k...) }, "{3,2,1}", 1},
		"bif":   {3, func(k ...api.Core) api.Core { return bif("setelement", k...) }, "", 1},
		"world": {2, func(k ...api.Core) api.Core { return bif("!", k...) }, "1", 1},
		"apply": {3, apply, "", 1},
	}
	for name, n := range nodes {
		var kids []api.Core
		var asked []string
		for i := range n.kids {
			kids = append(kids, say(int64(i+1)))
			asked = append(asked, "asks print("+entire(num(int64(i+1)))+")")
		}
		ends := "ends " + n.ends
		switch name {
		case "bif":
			ends = "ends badarg"
		case "apply":
			ends = "ends {badfun,1}"
		case "world":
			ends = "asks !(1,2), ends 1"
		}
		// Where it is a value, that is told by an exit, which takes one more.
		took := n.kids + n.took
		body := n.build(kids...)
		if n.ends != "" {
			body, took = bif("exit", body), took+1
		}
		tells(t, body, nil, strings.Join(asked, ", ")+", "+ends+", took "+entire(num(int64(took))), other)
		for i := range n.kids {
			broken := append([]api.Core{}, kids...)
			broken[i] = row(bif("throw", the(num(77))))
			want := strings.Join(append(append([]string{}, asked[:i]...), "ends {nocatch,77}", "took "+entire(num(int64(i+1)))), ", ")
			tells(t, n.build(broken...), nil, want, other)
		}
	}
}

// Words: a process ends when the function that it began with has told a value, or when an error comes out of it.
func TestEnds(t *testing.T) {
	for _, v := range kinds() {
		tells(t, x(0), []api.Term{v}, "ends normal, took 0")
		if term.Size(v) > 1000 {
			continue
		}
		tells(t, row(bif("exit", x(0))), []api.Term{v}, "ends "+entire(v)+", took 1")
		tells(t, row(bif("error", x(0))), []api.Term{v}, "ends "+entire(v)+", took 1")
		tells(t, row(bif("throw", x(0))), []api.Term{v}, "ends {nocatch,"+entire(v)+"}, took 1")
	}
	tells(t, bif("throw", x(0)), []api.Term{great(api.MaxSize - 2)}, "ends {nocatch,"+entire(great(api.MaxSize-2))+"}, took 1")
	tells(t, bif("throw", x(0)), []api.Term{great(api.MaxSize - 1)}, "ends system_limit, took 1")
	tells(t, bif("exit", x(0)), []api.Term{great(api.MaxSize - 2)}, "ends "+entire(great(api.MaxSize-2))+", took 1")
	tells(t, bif("exit", x(0)), []api.Term{great(api.MaxSize - 1)}, "ends system_limit, took 1")
	// Not when another function has told a value, even the same one, or a fun that it applies.
	other := function(0, one())
	tells(t, row(call(1), say(5)), nil, "asks print(5), ends normal, took 2", other)
	tells(t, row(apply(closure(1)), say(5)), nil, "asks print(5), ends normal, took 2", other)
	tells(t, cases(x(0), clause(is(num(0)), one()), clause(wild(), row(call(0, the(num(0))), say(5)))), []api.Term{num(1)}, "asks print(5), ends normal, took 2")
	// A value that looks like an error is none.
	tells(t, the(tuple(atom("error"), atom("a"))), nil, "ends normal, took 0")
}
