package step_test

import (
	"strconv"
	"strings"
	"testing"

	"pigeonhole/api"
	"pigeonhole/mail"
	"pigeonhole/sound"
	"pigeonhole/step"
)

// telling is a program whose functions tell who they are, and their parameters: of each Arity one for each Extra.
func telling(t *testing.T) api.Program {
	t.Helper()
	var funcs []api.Func
	for arity := range api.MaxArity + 1 {
		for extra := range arity + 1 {
			kids := []api.Core{the(num(int64(len(funcs))))}
			for i := range arity {
				kids = append(kids, x(i))
			}
			funcs = append(funcs, api.Func{Arity: arity, Extra: extra, Vars: arity, Body: bif("exit", row(kids...))})
		}
	}
	return program(t, funcs...)
}

func numbers(from, count int) []api.Term {
	var out []api.Term
	for i := range count {
		out = append(out, num(int64(from+i)))
	}
	return out
}

// P13.1: funs of each function, with captured ones and arguments fewer, as many and more than it has.
func TestNewOfFuns(t *testing.T) {
	p := telling(t)
	for i, f := range p.Funcs {
		for items := range f.Extra + 2 {
			for args := range f.Arity - f.Extra + 2 {
				proc := step.New(p, fun(i, numbers(100, items)...), numbers(200, args))
				what := "Arity " + strconv.Itoa(f.Arity) + ", Extra " + strconv.Itoa(f.Extra) + " of " + strconv.Itoa(items) + ", " + strconv.Itoa(args)
				if fits := items == f.Extra && items+args == f.Arity; fits != (proc != nil) {
					t.Errorf("%s: %v", what, proc)
					continue
				} else if !fits {
					continue
				}
				want := "ends " + entire(tuple(append([]api.Term{num(int64(i))}, append(numbers(100, items), numbers(200, args)...)...)...)) + " took 1"
				comes(t, proc, 1, mail.New(), want)
			}
		}
	}
	for _, n := range []int{-1, len(p.Funcs), len(p.Funcs) + 1, api.MaxCode, api.MaxCode + 1, 1 << 40, -1 << 63} {
		if step.New(p, fun(n), nil) != nil {
			t.Error("a fun of the function", n)
		}
	}
}

// P13.1: what is no fun, and no right one.
func TestNewOfOthers(t *testing.T) {
	p := program(t, function(0, one()), lambda(1, 1, x(0)), lambda(1, 2, x(0)))
	for _, f := range kinds() {
		if proc := step.New(p, f, nil); (proc != nil) != (f.Kind == api.Fun && f.Num == 0) {
			t.Errorf("%s: %v", cut(entire(f)), proc)
		}
	}
	for i, f := range flaws() {
		if step.New(p, f, nil) != nil {
			t.Error("no right term:", i)
		}
		if f.Kind = api.Fun; !alike(f, fun(0)) && step.New(p, f, nil) != nil {
			t.Error("no right fun:", i)
		}
		if step.New(p, fun(1, flaws()[i]), nil) != nil || step.New(p, fun(2, flaws()[i]), []api.Term{num(1)}) != nil {
			t.Error("a captured one that is not right:", i)
		}
		if step.New(p, fun(2, num(1)), []api.Term{flaws()[i]}) != nil {
			t.Error("an argument that is not right:", i)
		}
	}
	for _, f := range []api.Term{
		{Kind: api.Fun, Text: "a"}, {Kind: api.Fun, Neg: true}, {Kind: api.Fun, Limbs: []uint32{1}}, {Kind: api.Fun, Tail: []api.Term{num(1)}},
	} {
		if step.New(p, f, nil) != nil {
			t.Error(f)
		}
	}
	// The greatest ones that are right.
	for _, size := range []int{api.MaxSize - 2, api.MaxSize - 1} {
		if proc := step.New(p, fun(1, great(size)), nil); (proc != nil) != (size+2 <= api.MaxSize) {
			t.Error("a fun that has captured what is of the size", size, proc != nil)
		}
	}
	for _, size := range []int{api.MaxSize, api.MaxSize + 1} {
		if proc := step.New(p, fun(2, num(1)), []api.Term{great(size)}); (proc != nil) != (size <= api.MaxSize) {
			t.Error("an argument of the size", size, proc != nil)
		}
	}
}

// P13.1: each argument counts, the last one too.
func TestNewOfEachArgument(t *testing.T) {
	p := program(t, function(3, one()))
	for i := range 3 {
		args := numbers(1, 3)
		args[i] = api.Term{}
		if step.New(p, fun(0), args) != nil {
			t.Error("the argument", i)
		}
	}
	if step.New(p, fun(0), numbers(1, 3)) == nil {
		t.Error("right ones")
	}
}

// P13.1: programs that are not sound, wherever that shows.
func TestNewOfPrograms(t *testing.T) {
	right := function(0, one())
	with := func(change func(f *api.Func)) api.Program {
		f := right
		change(&f)
		return api.Program{Funcs: []api.Func{right, right, f}}
	}
	loop := make([]api.Core, 1)
	loop[0] = row(loop...)
	loop[0].Kids = loop
	programs := []api.Program{
		{},
		with(func(f *api.Func) { f.Name = strings.Repeat("a", api.MaxName+1) }),
		with(func(f *api.Func) { f.Arity = -1 }),
		with(func(f *api.Func) { f.Extra = 1 }),
		with(func(f *api.Func) { f.Vars = api.MaxVars + 1 }),
		with(func(f *api.Func) { f.Arity = api.MaxArity + 1 }),
		with(func(f *api.Func) { f.Body = api.Core{} }),
		with(func(f *api.Func) { f.Body = x(0) }),
		with(func(f *api.Func) { f.Body = the(api.Term{}) }),
		with(func(f *api.Func) { f.Body = call(3) }),
		with(func(f *api.Func) { f.Body = call(0, one()) }),
		with(func(f *api.Func) { f.Body = closure(7) }),
		with(func(f *api.Func) { f.Body = bif("nothing") }),
		with(func(f *api.Func) { f.Body = apply() }),
		with(func(f *api.Func) { f.Body = cases(one()) }),
		with(func(f *api.Func) { f.Body = receive() }),
		with(func(f *api.Func) { f.Body = let(0, one(), let(0, one(), one())) }),
		with(func(f *api.Func) { f.Body = loop[0] }),
		{Funcs: times(api.MaxCode+1, right)},
	}
	for i, p := range programs {
		if step.New(p, fun(0), nil) != nil {
			t.Error("a program that is not sound:", i, sound.Check(p))
		}
	}
	for _, count := range []int{1, 2, api.MaxCode} {
		p := api.Program{Funcs: times(count, right)}
		if step.New(p, fun(0), nil) == nil || step.New(p, fun(count-1), nil) == nil || step.New(p, fun(count), nil) != nil {
			t.Error("functions:", count)
		}
	}
}

// P13.1, R4: processes of one program, and of one fun, are each one of its own.
func TestNewTwice(t *testing.T) {
	p := source(t, "f(X) -> exit({X, self()}).")
	var procs []*step.Proc
	for i := range 5 {
		proc, m := begun(t, p, num(int64(i)))
		comes(t, proc, 9, m, "asks self() took 1")
		procs = append(procs, proc)
	}
	for i, proc := range procs {
		answers(t, proc, pid(i), api.OK)
	}
	for i, proc := range procs {
		comes(t, proc, 9, mail.New(), "ends "+entire(tuple(num(int64(i)), pid(i)))+" took 1")
	}
}
