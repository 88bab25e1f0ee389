package step_test

import (
	"testing"

	"pigeonhole/api"
	"pigeonhole/mail"
)

// spoil changes all memory that a term leads to.
func spoil(t api.Term) {
	for i := range t.Limbs {
		t.Limbs[i] = 77
	}
	for _, row := range [][]api.Term{t.Items, t.Tail} {
		for i := range row {
			spoil(row[i])
			row[i] = atom("spoiled")
		}
	}
}

func spoilAll(row []api.Term) {
	spoil(tuple(row...))
	for i := range row {
		row[i] = atom("spoiled")
	}
}

// rich is a term with memory of each kind.
func rich() api.Term {
	return tuple(num(1<<40), list(num(1), tuple(num(2))), improper(tuple(num(3)), num(4)), fun(1, num(5), list(num(6))))
}

const richText = "{1099511627776,[1,{2}],[4,|{3}],#1(5,[6])}"

// R3: arguments of New are not kept.
func TestArgumentsChanged(t *testing.T) {
	p := program(t, lambda(1, 2, bif("print", row(x(0), x(1)))))
	f, args := fun(0, rich()), []api.Term{rich()}
	proc := newOf(t, p, f, args)
	if entire(f) != "#0("+richText+")" || entire(args[0]) != richText {
		t.Error("arguments were changed")
	}
	spoil(f)
	spoilAll(args)
	comes(t, proc, 9, mail.New(), "asks print({"+richText+","+richText+"}) took 1")
}

// R3: answers and errors that are told are not kept, nor changed.
func TestAnswersChanged(t *testing.T) {
	p := program(t, function(0, let(0, bif("self"), try(bif("now"), clause(bind(1), bif("print", row(x(0), x(1))))))))
	proc, m := begun(t, p)
	comes(t, proc, 1, m, "asks self() took 1")
	a := rich()
	answers(t, proc, a, api.OK)
	if entire(a) != richText {
		t.Error("an answer was changed")
	}
	spoil(a)
	comes(t, proc, 1, m, "asks now() took 1")
	e := failure("odd", rich())
	raises(t, proc, e, api.OK)
	if entire(e) != "{odd,"+richText+"}" {
		t.Error("an error was changed")
	}
	spoil(e)
	comes(t, proc, 1, m, "asks print({"+richText+",{odd,"+richText+"}}) took 1")
}

// R3: what is handed out is new memory: the process does not hang on it.
func TestEventsChanged(t *testing.T) {
	p := program(t, function(1, let(1, bif("!", x(0), x(0)), bif("exit", row(x(0), x(1), the(rich()))))))
	proc, m := begun(t, p, rich())
	want := "asks !(" + richText + "," + richText + ") took "
	first := proc.Run(1, m)
	if shown(first) != want+"1" {
		t.Error(shown(first))
	}
	// No two lists of one answer share memory.
	spoil(first.Args[0])
	if entire(first.Args[1]) != richText {
		t.Error("arguments share memory")
	}
	spoilAll(first.Args)
	second := proc.Run(1, m)
	if shown(second) != want+"0" {
		t.Error(shown(second))
	}
	spoilAll(second.Args)
	comes(t, proc, 1, m, want+"0")
	answers(t, proc, rich(), api.OK)
	want = "ends {" + richText + "," + richText + "," + richText + "} took "
	last := proc.Run(1, m)
	if shown(last) != want+"1" {
		t.Error(shown(last))
	}
	spoil(last.Reason.Items[0])
	if entire(last.Reason.Items[1]) != richText {
		t.Error("parts of a reason share memory")
	}
	spoil(last.Reason)
	comes(t, proc, 1, m, want+"0")
	// The program is as it was.
	if got := entire(p.Funcs[0].Body.Kids[1].Kids[0].Kids[2].Term); got != richText {
		t.Error(got)
	}
}

// R3: constants of a program that are handed out are copies.
func TestConstantsHandedOut(t *testing.T) {
	p := program(t, function(0, row(bif("print", the(rich())), bif("exit", the(rich())))))
	for range 2 {
		proc, m := begun(t, p)
		e := proc.Run(1, m)
		if shown(e) != "asks print("+richText+") took 1" {
			t.Error(shown(e))
		}
		spoilAll(e.Args)
		answers(t, proc, num(1), api.OK)
		e = proc.Run(1, m)
		if shown(e) != "ends "+richText+" took 1" {
			t.Error(shown(e))
		}
		spoil(e.Reason)
	}
}

// R3: letters that are changed behind the Run make no difference, nor do those that are handed out.
func TestLettersChanged(t *testing.T) {
	p := program(t, function(0, receive(clause(pats(is(atom("want")), bind(0)), let(1, bif("print", x(0)), bif("exit", x(0)))))))
	proc, m := begun(t, p)
	other, wanted := rich(), tuple(atom("want"), rich())
	put(t, m, other, wanted)
	spoil(other)
	spoil(wanted)
	e := proc.Run(2, m)
	if shown(e) != "asks print("+richText+") took 2" {
		t.Error(shown(e))
	}
	spoilAll(e.Args)
	hasLetters(t, m, "| "+richText)
	if letter, err := m.Take(); err == api.OK {
		spoil(letter)
	}
	answers(t, proc, num(1), api.OK)
	comes(t, proc, 1, m, "ends "+richText+" took 1")
}

// R3: the program is not changed; processes of one program do not touch each other.
func TestProgramStays(t *testing.T) {
	const src = "f(X) -> L = [1, 2, X], T = setelement(1, {a, L}, L), receive {Y, Y} -> exit({T, sort(L ++ [Y]), fun () -> {X, L} end}) end."
	p, kept := source(t, src), source(t, src)
	for i := range 3 {
		proc, m := begun(t, p, num(int64(i)))
		put(t, m, tuple(num(0), num(0)))
		e := proc.Run(100, m)
		n := entire(num(int64(i)))
		if e.Reason.Kind != api.Tuple || entire(e.Reason.Items[0]) != "{[1,2,"+n+"],[1,2,"+n+"]}" {
			t.Error(shown(e))
		}
		spoil(e.Reason)
	}
	if len(p.Funcs) != len(kept.Funcs) {
		t.Fatal("functions")
	}
	for i := range p.Funcs {
		if !sameNodes(p.Funcs[i].Body, kept.Funcs[i].Body) {
			t.Error("the function", i)
		}
	}
}

func sameNodes(a, b api.Core) bool {
	if a.Kind != b.Kind || a.Text != b.Text || a.Num != b.Num || !alike(a.Term, b.Term) || len(a.Kids) != len(b.Kids) {
		return false
	}
	for i := range a.Kids {
		if !sameNodes(a.Kids[i], b.Kids[i]) {
			return false
		}
	}
	return true
}

// R3: a box is not kept: what comes into it behind a Run is not seen by one with another box.
func TestBoxIsNotKept(t *testing.T) {
	proc, m := begun(t, program(t, function(0, receive(clause(wild(), one())))))
	comes(t, proc, 1, m, "waits took 1")
	put(t, m, num(1))
	comes(t, proc, 1, mail.New(), "waits took 0")
	hasLetters(t, m, "| 1")
	comes(t, proc, 1, m, "ends normal took 0")
}
