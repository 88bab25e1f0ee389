package step_test

import (
	"testing"

	"pigeonhole/api"
	"pigeonhole/mail"
)

// wants is a process that receives a tuple of want and something, or the atom stop, ahead of a time, and ends with what it has received, or late.
func wants(time api.Core) api.Core {
	return within(time, bif("exit", the(atom("late"))), clause(pats(is(atom("want")), bind(10)), bif("exit", row(x(10), x(0)))), clause(is(atom("stop")), bif("exit", the(atom("stopped")))))
}

func want(n int64) api.Term { return tuple(atom("want"), num(n)) }

// Words: Receive: no letter, letters that nobody wants, the first one that is wanted.
func TestLetters(t *testing.T) {
	b, c := atom("b"), atom("c")
	for _, v := range []struct {
		letters []api.Term
		event   string
		left    string
	}{
		{nil, "waits took 1", "|"},
		{[]api.Term{b}, "waits took 1", "b |"},
		{[]api.Term{b, c, b}, "waits took 1", "b c b |"},
		{[]api.Term{want(1)}, "ends {1,9} took 2", "|"},
		{[]api.Term{want(1), want(2)}, "ends {1,9} took 2", "| {want,2}"},
		{[]api.Term{b, want(1), c, want(2)}, "ends {1,9} took 2", "| b c {want,2}"},
		{[]api.Term{b, c, want(1)}, "ends {1,9} took 2", "| b c"},
		{[]api.Term{b, atom("stop"), want(1)}, "ends stopped took 2", "| b {want,1}"},
		{[]api.Term{tuple(atom("want")), tuple(atom("want"), b, c), list(atom("want"), b), atom("stop")}, "ends stopped took 2", "| {want} {want,b,c} [want,b]"},
	} {
		proc, m := begun(t, program(t, function(1, wants(the(num(5))))), num(9))
		put(t, m, v.letters...)
		comes(t, proc, 9, m, v.event)
		hasLetters(t, m, v.left)
	}
}

// Words: Receive: a letter is taken, or passed by, by its patterns and guards, from the first clause on, with what is bound ahead.
func TestClausesOfReceive(t *testing.T) {
	body := receive(
		guarded(bind(10), bif(">", bif("hd", x(10)), x(0)), bif("exit", row(the(atom("first")), x(10)))),
		clause(pats(same(0), bind(10)), bif("exit", row(the(atom("second")), x(10)))),
		clause(pats(bind(10), same(10)), bif("exit", row(the(atom("third")), x(10)))),
	)
	for letter, want := range map[*api.Term]string{
		{Kind: api.List, Items: []api.Term{num(6)}}: "ends {first,[6]} took 2",
		{Kind: api.List, Items: []api.Term{num(5)}}: "waits took 1",
		{Kind: api.List}: "waits took 1",
		{Kind: api.Tuple, Items: []api.Term{num(5), num(5)}}: "ends {second,5} took 2",
		{Kind: api.Tuple, Items: []api.Term{num(5), num(6)}}: "ends {second,6} took 2",
		{Kind: api.Tuple, Items: []api.Term{num(6), num(6)}}: "ends {third,6} took 2",
		{Kind: api.Tuple, Items: []api.Term{num(6), num(5)}}: "waits took 1",
	} {
		proc, m := begun(t, program(t, function(1, body)), num(5))
		put(t, m, *letter)
		comes(t, proc, 9, m, want)
	}
}

// P13.2: where it waits it looks at the letters behind those that it has looked at.
func TestLettersThatComeLater(t *testing.T) {
	proc, m := begun(t, program(t, function(1, wants(the(num(5))))), num(9))
	put(t, m, atom("b"), atom("c"))
	comes(t, proc, 9, m, "waits took 1")
	hasLetters(t, m, "b c |")
	for range 3 {
		comes(t, proc, 9, m, "waits took 0")
		comes(t, proc, 0, m, "waits took 0")
		comes(t, proc, -1, m, "waits took 0")
	}
	put(t, m, atom("d"))
	hasLetters(t, m, "b c | d")
	comes(t, proc, 0, m, "waits took 0")
	hasLetters(t, m, "b c d |")
	put(t, m, atom("e"), want(1), want(2))
	hasLetters(t, m, "b c d | e {want,1} {want,2}")
	// The letter is taken without a reduction; what its clause does takes one.
	comes(t, proc, 0, m, "spent took 0")
	hasLetters(t, m, "| b c d e {want,2}")
	comes(t, proc, 0, m, "spent took 0")
	hasLetters(t, m, "| b c d e {want,2}")
	comes(t, proc, 1, m, "ends {1,9} took 1")
	hasLetters(t, m, "| b c d e {want,2}")

	// Those that it has looked at it does not look at again, though they are wanted by now.
	proc, m = begun(t, program(t, function(1, wants(the(num(5))))), num(9))
	comes(t, proc, 9, m, "waits took 1")
	put(t, m, want(1))
	m.Skip()
	comes(t, proc, 9, m, "waits took 0")
	hasLetters(t, m, "{want,1} |")
}

// Words: Receive: the next one begins anew with the first letter.
func TestReceiveAfterReceive(t *testing.T) {
	p := source(t, "f() -> receive c -> 1 end, receive X -> print(X) end, receive b -> receive Y -> exit(Y) end end.")
	proc, m := begun(t, p)
	put(t, m, atom("a"), atom("b"), atom("c"), atom("d"))
	comes(t, proc, 9, m, "asks print(a) took 3")
	hasLetters(t, m, "| b d")
	answers(t, proc, atom("ok"), api.OK)
	comes(t, proc, 9, m, "ends d took 3")
	hasLetters(t, m, "|")
}

// Words: Receive: Begin of the box as the reduction is taken, not ahead of it, nor again behind it.
func TestBegin(t *testing.T) {
	proc, m := begun(t, program(t, function(1, wants(the(num(5))))), num(9))
	put(t, m, want(1), atom("b"), atom("c"))
	m.Skip()
	m.Skip()
	comes(t, proc, 0, m, "spent took 0")
	hasLetters(t, m, "{want,1} b | c")
	comes(t, proc, 1, m, "spent took 1")
	hasLetters(t, m, "| b c")
	comes(t, proc, 1, m, "ends {1,9} took 1")

	proc, m = begun(t, program(t, function(1, wants(the(num(5))))), num(9))
	put(t, m, atom("a"), atom("b"), atom("c"))
	comes(t, proc, 1, m, "waits took 1")
	hasLetters(t, m, "a b c |")
	comes(t, proc, 1, m, "waits took 0")
	hasLetters(t, m, "a b c |")
}

// Words: Receive: its time.
func TestTimes(t *testing.T) {
	for _, c := range []struct {
		time  api.Term
		event string
	}{
		{num(0), "ends late took 2"}, {num(1), "waits took 1"}, {num(5), "waits took 1"}, {num(1<<31 - 1), "waits took 1"},
		{atom("infinity"), "waits took 1"},
		{num(1 << 31), "ends timeout_value took 0"}, {num(1<<32 - 1), "ends timeout_value took 0"}, {num(1 << 32), "ends timeout_value took 0"}, {num(1<<32 + 5), "ends timeout_value took 0"}, {num(1 << 62), "ends timeout_value took 0"},
		{api.Term{Kind: api.Int, Limbs: times(api.MaxLimbs, uint32(1))}, "ends timeout_value took 0"},
		{num(-1), "ends timeout_value took 0"}, {num(-1 << 40), "ends timeout_value took 0"},
		{atom("a"), "ends timeout_value took 0"}, {atom(""), "ends timeout_value took 0"}, {atom("infinite"), "ends timeout_value took 0"}, {atom("Infinity"), "ends timeout_value took 0"},
		{tuple(), "ends timeout_value took 0"}, {tuple(num(5)), "ends timeout_value took 0"}, {list(), "ends timeout_value took 0"}, {list(num(5)), "ends timeout_value took 0"}, {pid(5), "ends timeout_value took 0"}, {ref(5), "ends timeout_value took 0"}, {fun(5), "ends timeout_value took 0"}, {great(api.MaxSize), "ends timeout_value took 0"},
	} {
		what := cut(entire(c.time))
		proc, m := begun(t, program(t, function(1, wants(x(0)))), c.time)
		if got := shown(proc.Run(9, m)); got != c.event {
			t.Errorf("the time %s: %s, not %s", what, got, c.event)
			continue
		}
		n, timed := 0, false
		if c.event == "waits took 1" && c.time.Kind == api.Int {
			n, timed = int(c.time.Limbs[0]), true
		}
		hasTime(t, proc, n, timed)
		hasTime(t, proc, n, timed)
		if timed {
			isOver(t, proc, api.OK)
			hasTime(t, proc, 0, false)
			isOver(t, proc, api.ErrState)
			comes(t, proc, 9, m, "ends late took 1")
		} else {
			isOver(t, proc, api.ErrState)
		}
		// With a letter that is wanted the time makes no difference, if it is one.
		proc, m = begun(t, program(t, function(1, wants(x(0)))), c.time)
		put(t, m, atom("b"), atom("stop"))
		if got := shown(proc.Run(9, m)); got != c.event && got != "ends stopped took 2" || (got == c.event) != (c.event == "ends timeout_value took 0") {
			t.Errorf("the time %s, a letter: %s", what, got)
		}
	}
	// An error of the class error.
	errs(t, wants(the(atom("a"))), []api.Term{num(1)}, "error", atom("timeout_value"), 0)
	reckons(t, within(the(num(0)), row(x(0))), []api.Term{num(7)}, tuple(num(7)), 1)
	errs(t, within(the(num(0)), bad("b")), nil, "error", atom("b"), 1)
	errs(t, within(bad("b"), one(), clause(wild(), one())), nil, "error", atom("b"), 0)
}

// Words: Receive: the time is reckoned first, once, with what is bound ahead.
func TestTimeIsReckonedFirst(t *testing.T) {
	body := within(bif("+", say(2), x(0)), say(3), clause(is(atom("stop")), say(4)))
	proc, m := begun(t, program(t, function(1, body)), num(5))
	put(t, m, atom("b"))
	comes(t, proc, 0, m, "spent took 0")
	comes(t, proc, 1, m, "asks print(2) took 1")
	answers(t, proc, num(7), api.OK)
	comes(t, proc, 1, m, "spent took 1")
	hasLetters(t, m, "| b")
	hasTime(t, proc, 0, false)
	comes(t, proc, 1, m, "waits took 1")
	hasTime(t, proc, 12, true)
	comes(t, proc, 1, m, "waits took 0")
	hasTime(t, proc, 12, true)
	isOver(t, proc, api.OK)
	comes(t, proc, 1, m, "asks print(3) took 1")
}

// Words: Receive without clauses, which sleeps.
func TestNoClauses(t *testing.T) {
	proc, m := begun(t, program(t, function(0, within(the(num(5)), bif("exit", the(atom("late")))))))
	put(t, m, atom("a"), atom("b"))
	comes(t, proc, 9, m, "waits took 1")
	hasLetters(t, m, "a b |")
	put(t, m, atom("c"))
	comes(t, proc, 9, m, "waits took 0")
	hasLetters(t, m, "a b c |")
	isOver(t, proc, api.OK)
	comes(t, proc, 9, m, "ends late took 1")
	hasLetters(t, m, "a b c |")
	proc, m = begun(t, program(t, function(0, within(the(num(0)), bif("exit", the(atom("late")))))))
	put(t, m, atom("a"))
	comes(t, proc, 9, m, "ends late took 2")
	hasLetters(t, m, "a |")
}

// Words: Receive: with the time 0 letters are looked at all the same, and it never waits.
func TestTimeOfNought(t *testing.T) {
	proc, m := begun(t, program(t, function(1, wants(the(num(0))))), num(9))
	put(t, m, atom("a"), atom("b"), want(1))
	comes(t, proc, 9, m, "ends {1,9} took 2")
	hasLetters(t, m, "| a b")
	proc, m = begun(t, program(t, function(1, wants(the(num(0))))), num(9))
	put(t, m, atom("a"), atom("b"))
	comes(t, proc, 1, m, "spent took 1")
	hasLetters(t, m, "a b |")
	put(t, m, want(1))
	comes(t, proc, 1, m, "ends late took 1")
	hasLetters(t, m, "a b | {want,1}")
}

// P13.3: behind Over it goes on with the last kid, whatever letters have come, with the variables that it had.
func TestOverBehindLetters(t *testing.T) {
	body := within(the(num(5)), bif("exit", row(the(atom("late")), x(0))), clause(bind(10), bif("exit", x(10))))
	proc, m := begun(t, program(t, function(1, body)), num(9))
	comes(t, proc, 9, m, "waits took 1")
	put(t, m, atom("b"))
	isOver(t, proc, api.OK)
	comes(t, proc, 9, m, "ends {late,9} took 1")
	hasLetters(t, m, "| b")
}

// Words: letters that are no right terms are taken by nothing.
func TestLettersThatAreNotRight(t *testing.T) {
	for i, flaw := range flaws() {
		if i == len(flaws())-1 && testing.Short() {
			continue
		}
		proc, m := begun(t, program(t, function(0, receive(clause(wild(), one()), clause(bind(0), one())))))
		put(t, m, flaw, flaw)
		comes(t, proc, 9, m, "waits took 1")
		if m.Skip() != api.ErrNone || m.Len() != 2 {
			t.Error("a letter that is not right:", i)
		}
		put(t, m, num(1))
		comes(t, proc, 9, m, "ends normal took 0")
		if m.Len() != 2 {
			t.Error("a letter that is not right:", i)
		}
	}
	for _, v := range kinds() {
		proc, m := begun(t, program(t, function(0, receive(clause(bind(0), bif("print", x(0)))))))
		put(t, m, v)
		comes(t, proc, 9, m, "asks print("+entire(v)+") took 2")
	}
}

// P13.2: a box that mail.New did not make does nothing: there are no letters in it.
func TestNoBox(t *testing.T) {
	none := &mail.Box{}
	proc, _ := begun(t, program(t, function(1, wants(the(num(5))))), num(9))
	comes(t, proc, 9, none, "waits took 1")
	hasTime(t, proc, 5, true)
	comes(t, proc, 9, none, "waits took 0")
	isOver(t, proc, api.OK)
	comes(t, proc, 9, none, "ends late took 1")
	proc, _ = begun(t, program(t, function(1, wants(the(num(0))))), num(9))
	comes(t, proc, 9, none, "ends late took 2")
	value := *mail.New()
	proc, _ = begun(t, program(t, function(0, receive(clause(wild(), one())))))
	comes(t, proc, 9, &value, "waits took 1")
	// Each Run may have another box.
	m := mail.New()
	put(t, m, atom("a"))
	comes(t, proc, 9, m, "ends normal took 0")
	proc, _ = begun(t, source(t, "f(X) -> X + 1."), num(1))
	comes(t, proc, 9, none, "ends normal took 1")
}

// Words: Receive: an error, or something asked, in a clause's body is behind the letter, which is taken.
func TestBodyOfReceive(t *testing.T) {
	body := try(receive(clause(bind(10), row(say(1), fail("a", x(10))))), clause(pats(wild(), bind(11)), bif("exit", x(11))))
	proc, m := begun(t, program(t, function(0, body)))
	put(t, m, atom("b"), atom("c"))
	comes(t, proc, 9, m, "asks print(1) took 2")
	hasLetters(t, m, "| c")
	answers(t, proc, num(1), api.OK)
	comes(t, proc, 9, m, "ends {a,b} took 1")
	hasLetters(t, m, "| c")
}
