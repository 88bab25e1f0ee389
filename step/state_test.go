package step_test

import (
	"testing"

	"pigeonhole/api"
	"pigeonhole/mail"
	"pigeonhole/step"
)

func failure(class string, reason api.Term) api.Term { return tuple(atom(class), reason) }

// P13.2: a process with an n of 0, below 0, and of few: it stops ahead of a reduction.
func TestSpent(t *testing.T) {
	body := bif("exit", row(call(1, bif("+", x(0), one())), apply(closure(1), one())))
	p := program(t, function(1, body), function(1, row(x(0))))
	whole, m := begun(t, p, num(5))
	comes(t, whole, 1<<62, m, "ends {{6},{1}} took 4")
	for _, none := range []int{0, -1, -100, -1 << 63} {
		proc, m := begun(t, p, num(5))
		for range 3 {
			comes(t, proc, none, m, "spent took 0")
		}
		for range 3 {
			comes(t, proc, 1, m, "spent took 1")
			comes(t, proc, none, m, "spent took 0")
		}
		comes(t, proc, 1, m, "ends {{6},{1}} took 1")
		comes(t, proc, none, m, "ends {{6},{1}} took 0")
	}
	// With as many as it needs, one fewer, one more.
	for n, want := range []string{"spent took 0", "spent took 1", "spent took 2", "spent took 3", "ends {{6},{1}} took 4", "ends {{6},{1}} took 4"} {
		proc, m := begun(t, p, num(5))
		comes(t, proc, n, m, want)
	}
	// What takes no reduction is done with none.
	proc, m := begun(t, source(t, "f(X) -> case {X, [X]} of {Y, _} -> fun () -> Y end end."), num(5))
	comes(t, proc, 0, m, "ends normal took 0")
	proc, m = begun(t, source(t, "f(1) -> 1."), num(5))
	comes(t, proc, -5, m, "ends function_clause took 0")
}

// Words: each call, Apply, Bif and receive takes one reduction, ahead of what it does.
func TestWhereReductionsAreTaken(t *testing.T) {
	other := function(1, bad("done"))
	for what, c := range map[string]struct {
		node  api.Core
		event string
	}{
		"call":              {call(1, one()), "ends done took 1"},
		"apply":             {apply(closure(1), one()), "ends done took 1"},
		"apply of no fun":   {apply(one(), one()), "ends {badfun,1} took 1"},
		"apply of too many": {apply(closure(1)), "ends {badarity,#1()} took 1"},
		"bif":               {bif("exit", one()), "ends 1 took 1"},
		"bif of the world":  {bif("self"), "asks self() took 1"},
		"receive":           {receive(clause(wild(), one())), "waits took 1"},
		"timed receive":     {within(the(num(0)), bad("late"), clause(wild(), one())), "ends late took 1"},
	} {
		proc, m := begun(t, program(t, function(0, row(c.node)), other))
		for range 2 {
			if got := shown(proc.Run(0, m)); got != "spent took 0" {
				t.Errorf("%s: %s", what, got)
			}
		}
		if got := shown(proc.Run(1, m)); got != c.event {
			t.Errorf("%s: %s, not %s", what, got, c.event)
		}
	}
	for what, node := range map[string]api.Core{
		"tuple": row(one()), "cons": cell(one(), one()), "fun": closure(1), "let": let(0, one(), one()),
		"case": cases(one(), guarded(bind(0), bif("is_integer", bif("+", x(0), one())), x(0))), "try": try(one(), clause(wild(), one())),
	} {
		proc, m := begun(t, program(t, function(0, let(9, node, bad("behind"))), other))
		if got := shown(proc.Run(0, m)); got != "ends behind took 0" {
			t.Errorf("%s: %s", what, got)
		}
	}
}

// P13.2, P13.3: what it asked it asks still, till it is answered.
func TestAskedAgain(t *testing.T) {
	p := program(t, function(1, bif("exit", row(bif("!", x(0), the(list(num(1)))), x(0)))))
	proc, m := begun(t, p, pid(7))
	answers(t, proc, num(1), api.ErrState)
	comes(t, proc, 1, m, "asks !(<7>,[1]) took 1")
	for _, n := range []int{0, -1, 1, 100} {
		comes(t, proc, n, m, "asks !(<7>,[1]) took 0")
	}
	// What is no answer leaves it as it is.
	for _, flaw := range flaws() {
		answers(t, proc, flaw, api.ErrArg)
		raises(t, proc, flaw, api.ErrArg)
		raises(t, proc, tuple(atom("error"), flaw), api.ErrArg)
	}
	isOver(t, proc, api.ErrState)
	hasTime(t, proc, 0, false)
	comes(t, proc, 0, m, "asks !(<7>,[1]) took 0")
	answers(t, proc, atom("yes"), api.OK)
	answers(t, proc, atom("no"), api.ErrState)
	raises(t, proc, failure("error", atom("no")), api.ErrState)
	isOver(t, proc, api.ErrState)
	comes(t, proc, 0, m, "spent took 0")
	answers(t, proc, atom("no"), api.ErrState)
	comes(t, proc, 1, m, "ends {yes,<7>} took 1")
}

// P13.3: any right term is the value of what was asked.
func TestAnswers(t *testing.T) {
	p := program(t, function(0, let(0, bif("self"), bif("print", x(0)))))
	for _, v := range kinds() {
		proc, m := begun(t, p)
		comes(t, proc, 9, m, "asks self() took 1")
		answers(t, proc, v, api.OK)
		comes(t, proc, 9, m, "asks print("+entire(v)+") took 1")
		answers(t, proc, v, api.OK)
		comes(t, proc, 9, m, "ends normal took 0")
	}
}

// P13.3: a right tuple of two, the first an atom, is an error; nothing else.
func TestRaised(t *testing.T) {
	p := program(t, function(0, row(bif("self"))))
	asking := func() (*step.Proc, *mail.Box) {
		proc, m := begun(t, p)
		comes(t, proc, 9, m, "asks self() took 1")
		return proc, m
	}
	for _, v := range kinds() {
		if len(entire(v)) > 1000 {
			continue
		}
		for _, class := range []string{"error", "exit", "any", "", "Throw"} {
			proc, m := asking()
			raises(t, proc, failure(class, v), api.OK)
			comes(t, proc, 0, m, "ends "+entire(v)+" took 0")
		}
		proc, m := asking()
		raises(t, proc, failure("throw", v), api.OK)
		comes(t, proc, 0, m, "ends {nocatch,"+entire(v)+"} took 0")
	}
	for _, wrong := range append(kinds(),
		tuple(atom("error")), tuple(atom("error"), num(1), num(2)), tuple(num(1), num(2)), tuple(tuple(), num(1)), tuple(list(), num(1)), tuple(num(1), atom("error")), list(atom("error"), num(1)),
		fun(0, atom("error"), num(1)), tuple(atom("error"), great(api.MaxSize-1)), tuple(atom("error"), api.Term{}), tuple(api.Term{}, num(1)), api.Term{Kind: api.Tuple, Num: 1, Items: []api.Term{atom("error"), num(1)}},
	) {
		proc, m := asking()
		raises(t, proc, wrong, api.ErrArg)
		comes(t, proc, 9, m, "asks self() took 0")
	}
	// The greatest ones.
	for _, class := range []string{"error", "throw"} {
		proc, m := asking()
		raises(t, proc, failure(class, great(api.MaxSize-2)), api.OK)
		want := entire(great(api.MaxSize - 2))
		if class == "throw" {
			want = "{nocatch," + want + "}"
		}
		comes(t, proc, 0, m, "ends "+want+" took 0")
	}
	// It is tried like any other.
	proc, m := begun(t, program(t, function(0, try(row(bif("self")), clause(pats(is(atom("mine")), bind(0)), bif("print", x(0)))))))
	comes(t, proc, 9, m, "asks self() took 1")
	raises(t, proc, failure("mine", num(5)), api.OK)
	raises(t, proc, failure("mine", num(5)), api.ErrState)
	comes(t, proc, 9, m, "asks print(5) took 1")
	raises(t, proc, failure("mine", num(6)), api.OK)
	comes(t, proc, 9, m, "ends 6 took 0")
}

// states are processes in each state, and their boxes.
func states(t *testing.T) map[string]func() (*step.Proc, *mail.Box) {
	at := func(n int, body api.Core) func() (*step.Proc, *mail.Box) {
		return func() (*step.Proc, *mail.Box) {
			proc, m := begun(t, program(t, function(0, body)))
			if n >= 0 {
				proc.Run(n, m)
			}
			return proc, m
		}
	}
	letter := clause(wild(), one())
	timed := within(the(num(7)), bad("late"), letter)
	return map[string]func() (*step.Proc, *mail.Box){
		"new":               at(-1, timed),
		"new, to ask":       at(-1, bif("self")),
		"spent":             at(0, timed),
		"spent, to ask":     at(0, bif("self")),
		"asks":              at(1, bif("self")),
		"waits":             at(1, receive(letter)),
		"waits for no time": at(1, within(the(atom("infinity")), bad("late"), letter)),
		"waits with a time": at(1, timed),
		"ended":             at(1, one()),
		"ended by an error": at(1, bif("throw", one())),
		"answered": func() (*step.Proc, *mail.Box) {
			proc, m := at(1, row(bif("self"), bif("self")))()
			answers(t, proc, num(1), api.OK)
			return proc, m
		},
		"raised": func() (*step.Proc, *mail.Box) {
			proc, m := at(1, try(bif("self"), clause(wild(), bif("self"))))()
			raises(t, proc, failure("error", num(1)), api.OK)
			return proc, m
		},
		"over": func() (*step.Proc, *mail.Box) {
			proc, m := at(1, within(the(num(7)), timed, letter))()
			isOver(t, proc, api.OK)
			return proc, m
		},
		"with a letter": func() (*step.Proc, *mail.Box) {
			proc, m := at(1, within(the(num(7)), one(), clause(wild(), timed)))()
			put(t, m, num(1))
			comes(t, proc, 0, m, "spent took 0")
			return proc, m
		},
	}
}

// P13.3, Errors: each call in each state, with arguments that are right and with wrong ones: ErrState ahead of ErrArg.
func TestCallsInEachState(t *testing.T) {
	right := failure("error", num(1))
	for name, made := range states(t) {
		want := func(may bool, otherwise api.Errno) api.Errno {
			if may {
				return otherwise
			}
			return api.ErrState
		}
		asks, timed := name == "asks", name == "waits with a time"
		for what, call := range map[string]struct {
			do   func(proc *step.Proc) api.Errno
			want api.Errno
		}{
			"Answer":          {func(proc *step.Proc) api.Errno { return proc.Answer(right) }, want(asks, api.OK)},
			"Raise":           {func(proc *step.Proc) api.Errno { return proc.Raise(right) }, want(asks, api.OK)},
			"Answer of wrong": {func(proc *step.Proc) api.Errno { return proc.Answer(api.Term{}) }, want(asks, api.ErrArg)},
			"Raise of wrong":  {func(proc *step.Proc) api.Errno { return proc.Raise(num(1)) }, want(asks, api.ErrArg)},
			"Over":            {func(proc *step.Proc) api.Errno { return proc.Over() }, want(timed, api.OK)},
		} {
			proc, m := made()
			n, ok := proc.Time()
			if ok != timed || (n == 7) != timed || !timed && n != 0 {
				t.Errorf("%s: Time %d %v", name, n, ok)
			}
			if got := call.do(proc); got != call.want {
				t.Errorf("%s: %s: %d, not %d", name, what, got, call.want)
			}
			if call.want == api.OK {
				if got := call.do(proc); got != api.ErrState {
					t.Errorf("%s: %s again: %d", name, what, got)
				}
				continue
			}
			// What was refused has changed nothing.
			other, n2 := made()
			for range 3 {
				if got, want := shown(proc.Run(1, m)), shown(other.Run(1, n2)); got != want {
					t.Errorf("%s: behind %s: %s, not %s", name, what, got, want)
				}
			}
		}
	}
}

// P13.2: Run of a process that has ended: it ends each time.
func TestEndedAgain(t *testing.T) {
	for reason, body := range map[string]api.Core{"normal": row(one()), "1": bif("exit", one()), "{nocatch,1}": bif("throw", one()), "a": bad("a")} {
		proc, m := begun(t, program(t, function(0, body)))
		first := proc.Run(5, m)
		if first.Kind != step.Ends || entire(first.Reason) != reason {
			t.Error(shown(first))
		}
		put(t, m, num(1))
		for _, n := range []int{0, 5, -1, 1 << 40} {
			comes(t, proc, n, m, "ends "+reason+" took 0")
		}
		answers(t, proc, num(1), api.ErrState)
		raises(t, proc, failure("error", num(1)), api.ErrState)
		isOver(t, proc, api.ErrState)
		hasTime(t, proc, 0, false)
		comes(t, proc, 5, m, "ends "+reason+" took 0")
		comes(t, proc, 5, &mail.Box{}, "ends "+reason+" took 0")
		hasLetters(t, m, "| 1")
	}
}

// P13.2: a nil box is a zero event in each state, and changes nothing.
func TestNilBox(t *testing.T) {
	for name, made := range states(t) {
		proc, m := made()
		other, n := made()
		for _, reductions := range []int{0, 1, 100, -1} {
			if got := shown(proc.Run(reductions, nil)); got != "nothing took 0" {
				t.Errorf("%s: %s", name, got)
			}
		}
		time, timed := proc.Time()
		if wanted, ok := other.Time(); time != wanted || timed != ok {
			t.Errorf("%s: Time %d %v, not %d %v", name, time, timed, wanted, ok)
		}
		if got, want := proc.Over(), other.Over(); got != want {
			t.Errorf("%s: Over %d, not %d", name, got, want)
		}
		if got, want := proc.Answer(num(1)), other.Answer(num(1)); got != want {
			t.Errorf("%s: Answer %d, not %d", name, got, want)
		}
		for range 3 {
			if got, want := shown(proc.Run(1, m)), shown(other.Run(1, n)); got != want {
				t.Errorf("%s: %s, not %s", name, got, want)
			}
		}
	}
}

// The chapter's example.
func TestExample(t *testing.T) {
	p := source(t, "f(X) -> receive {X, Y} -> Y after 5 -> none end.")
	proc, m := begun(t, p, num(1))
	put(t, m, tuple(num(1), num(2)))
	comes(t, proc, 9, m, "ends normal took 1")
	proc, m = begun(t, p, num(1))
	comes(t, proc, 9, m, "waits took 1")
	hasTime(t, proc, 5, true)
	isOver(t, proc, api.OK)
	comes(t, proc, 9, m, "ends normal took 0")
}

// The document's examples, as far as one process shows them.
func TestExamples(t *testing.T) {
	proc, m := begun(t, source(t, "f(X) -> print(X + 1)."), num(41))
	comes(t, proc, 9, m, "asks print(42) took 2")
	answers(t, proc, atom("ok"), api.OK)
	comes(t, proc, 7, m, "ends normal took 0")

	proc, m = begun(t, source(t, "f() -> receive 2 -> receive X -> print(X) end end."))
	put(t, m, num(1), num(2))
	comes(t, proc, 9, m, "asks print(1) took 3")

	proc, m = begun(t, source(t, "f() -> receive X -> X after 5 -> print(late) end."))
	comes(t, proc, 9, m, "waits took 1")
	isOver(t, proc, api.OK)
	comes(t, proc, 9, m, "asks print(late) took 1")

	proc, m = begun(t, source(t, "f(L) -> print([X * 2 || X <- L, X > 1])."), list(num(1), num(2), num(3)))
	comes(t, proc, 99, m, "asks print([4,6]) took 11")

	proc, m = begun(t, source(t, "f(X) -> print(try g(X) catch error : badarith -> none end). g(X) -> X + a."), num(1))
	comes(t, proc, 99, m, "asks print(none) took 3")
}
