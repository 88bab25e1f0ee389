package step_test

import (
	"testing"

	"pigeonhole/api"
	"pigeonhole/mail"
	"pigeonhole/step"
)

// newOf is a process, which there must be.
func newOf(t *testing.T, p api.Program, f api.Term, args []api.Term) *step.Proc {
	t.Helper()
	proc := step.New(p, f, args)
	if proc == nil {
		t.Fatal("no process")
	}
	return proc
}

// isNone asks that x is no process: each of its calls does nothing, and answers zero values, ErrNil where it answers an error.
func isNone(t *testing.T, what string, proc *step.Proc) {
	t.Helper()
	m := mail.New()
	put(t, m, num(1), num(2))
	m.Skip()
	for range 2 {
		for _, box := range []*mail.Box{m, nil, {}} {
			if e := proc.Run(5, box); shown(e) != "nothing took 0" {
				t.Errorf("%s: Run: %s", what, shown(e))
			}
		}
		for _, a := range []api.Term{{}, num(1), failure("error", num(1))} {
			if e := proc.Answer(a); e != api.ErrNil {
				t.Errorf("%s: Answer: %d", what, e)
			}
			if e := proc.Raise(a); e != api.ErrNil {
				t.Errorf("%s: Raise: %d", what, e)
			}
		}
		if e := proc.Over(); e != api.ErrNil {
			t.Errorf("%s: Over: %d", what, e)
		}
		if n, ok := proc.Time(); n != 0 || ok {
			t.Errorf("%s: Time: %d %v", what, n, ok)
		}
	}
	hasLetters(t, m, "1 | 2")
}

// P13.2, P13.3, R5: processes that are nil, and that nobody made.
func TestNone(t *testing.T) {
	isNone(t, "nil", nil)
	isNone(t, "one that nobody made", &step.Proc{})
	isNone(t, "another one", new(step.Proc))
	var inside struct{ proc step.Proc }
	isNone(t, "one inside of something", &inside.proc)
	isNone(t, "one of no program", step.New(api.Program{}, fun(0), nil))
}

// R5: a process's value in another place is none, in each state; the process is not touched by what is asked of it.
func TestValueElsewhere(t *testing.T) {
	for name, made := range states(t) {
		proc, m := made()
		other, n := made()
		value := *proc
		isNone(t, name, &value)
		for range 3 {
			if got, want := shown(proc.Run(1, m)), shown(other.Run(1, n)); got != want {
				t.Errorf("%s: %s, not %s", name, got, want)
			}
		}
		*proc = step.Proc{}
		isNone(t, name+", made nothing", proc)
	}
}
