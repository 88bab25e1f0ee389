package step_test

import (
	"iter"
	"slices"
	"strconv"
	"testing"

	"pigeonhole/api"
	layer10 "pigeonhole/bif"
	"pigeonhole/lint"
	"pigeonhole/mail"
	"pigeonhole/match"
	"pigeonhole/step"
	"pigeonhole/term"
	"pigeonhole/whole"
)

// model is the chapter's words once more: a node is reckoned by a call that calls itself, and a process that comes to something stands still in the middle of it.
type model struct {
	funcs  []api.Func
	yield  func(step.Event) bool
	resume func() (step.Event, bool)
	stop   func()
	box    *mail.Box
	left   int
	took   int
	last   step.Event
	given  *given // the world's answer
	time   int    // which it waits with, if that is above 0
	over   bool
}

type given struct {
	term   api.Term
	raised bool
}

// gone is what a model that is stopped ends with.
type gone struct{}

// modelOf is a process that begins with a right fun.
func modelOf(p api.Program, f api.Term, args []api.Term) *model {
	m := &model{funcs: p.Funcs}
	m.resume, m.stop = iter.Pull(func(yield func(step.Event) bool) {
		defer func() {
			if r := recover(); r != nil && r != (gone{}) {
				panic(r)
			}
		}()
		m.yield = yield
		_, raised := m.body(f.Num, append(slices.Clone(f.Items), args...))
		for {
			m.stand(step.Event{Kind: step.Ends, Reason: ended(raised)})
		}
	})
	return m
}

// ended is the reason for an error, or for none.
func ended(raised *api.Term) api.Term {
	switch {
	case raised == nil:
		return atom("normal")
	case raised.Items[0].Text == "throw":
		return tuple(atom("nocatch"), raised.Items[1])
	}
	return raised.Items[1]
}

func (m *model) Run(n int, box *mail.Box) step.Event {
	m.left, m.took, m.box = max(n, 0), 0, box
	m.last, _ = m.resume()
	m.last.Took = m.took
	return m.last
}

func (m *model) Answer(t api.Term) api.Errno {
	return m.give(given{term: t}, term.Right(t))
}

func (m *model) Raise(t api.Term) api.Errno {
	return m.give(given{t, true}, term.Right(t) && t.Kind == api.Tuple && len(t.Items) == 2 && t.Items[0].Kind == api.Atom)
}

func (m *model) give(g given, right bool) api.Errno {
	if m.last.Kind != step.Asks {
		return api.ErrState
	}
	if !right {
		return api.ErrArg
	}
	m.last, m.given = step.Event{}, &g
	return api.OK
}

func (m *model) Over() api.Errno {
	if _, ok := m.Time(); !ok {
		return api.ErrState
	}
	m.last, m.over = step.Event{}, true
	return api.OK
}

func (m *model) Time() (int, bool) {
	if m.last.Kind != step.Waits || m.time == 0 {
		return 0, false
	}
	return m.time, true
}

// stand comes to an event, and goes on when it is Run again.
func (m *model) stand(e step.Event) {
	if !m.yield(e) {
		panic(gone{})
	}
}

func (m *model) reduce() {
	for m.left == 0 {
		m.stand(step.Event{Kind: step.Spent})
	}
	m.left--
	m.took++
}

func failed(class string, reason api.Term) *api.Term {
	t := tuple(atom(class), reason)
	if !term.Right(t) {
		t = tuple(atom("error"), atom("system_limit"))
	}
	return &t
}

// body is what a function comes to.
func (m *model) body(f int, args []api.Term) (api.Term, *api.Term) {
	vars := map[int]api.Term{}
	for i, t := range args {
		vars[i] = t
	}
	return m.reckon(m.funcs[f].Body, vars, m.funcs[f].Vars)
}

// reckon is a node's value, or its error.
func (m *model) reckon(c api.Core, vars map[int]api.Term, count int) (api.Term, *api.Term) {
	switch c.Kind {
	case api.CoreConst:
		return c.Term, nil
	case api.CoreVar:
		return vars[c.Num], nil
	case api.CoreLet:
		value, raised := m.reckon(c.Kids[0], vars, count)
		if raised != nil {
			return api.Term{}, raised
		}
		return m.reckon(c.Kids[1], with(vars, c.Num, value), count)
	case api.CoreCase:
		value, raised := m.reckon(c.Kids[0], vars, count)
		if raised != nil {
			return api.Term{}, raised
		}
		if body, own := taken(c.Kids[1:], value, vars, count); body != nil {
			return m.reckon(*body, own, count)
		}
		return api.Term{}, failed("error", atom("case_clause"))
	case api.CoreTry:
		value, raised := m.reckon(c.Kids[0], vars, count)
		if raised == nil {
			return value, nil
		}
		if body, own := taken(c.Kids[1:], *raised, vars, count); body != nil {
			return m.reckon(*body, own, count)
		}
		return api.Term{}, raised
	case api.CoreReceive:
		return m.receive(c, vars, count)
	}
	var values []api.Term
	for _, kid := range c.Kids {
		value, raised := m.reckon(kid, vars, count)
		if raised != nil {
			return api.Term{}, raised
		}
		values = append(values, value)
	}
	return m.combined(c, values)
}

func with(vars map[int]api.Term, num int, value api.Term) map[int]api.Term {
	own := map[int]api.Term{num: value}
	for i, t := range vars {
		if i != num {
			own[i] = t
		}
	}
	return own
}

// taken is the body of the first clause that takes a value, and what is bound there.
func taken(clauses []api.Core, value api.Term, vars map[int]api.Term, count int) (*api.Core, map[int]api.Term) {
	for _, c := range clauses {
		v := match.New(count)
		for i, t := range vars {
			v.Has[i], v.Values[i] = true, t
		}
		v, ok := match.Match(c.Kids[0], value, v)
		if !ok || !match.Guard(c.Kids[1], v) {
			continue
		}
		own := map[int]api.Term{}
		for i, has := range v.Has {
			if has {
				own[i] = v.Values[i]
			}
		}
		return &c.Kids[2], own
	}
	return nil, nil
}

// combined is what a node comes to whose kids have these values.
func (m *model) combined(c api.Core, values []api.Term) (api.Term, *api.Term) {
	switch c.Kind {
	case api.CoreTuple:
		return fitting(tuple(values...))
	case api.CoreFun:
		return fitting(fun(c.Num, values...))
	case api.CoreCons:
		return fitting(term.Cons(values[0], values[1]))
	case api.CoreFail:
		if len(values) == 0 {
			return api.Term{}, failed("error", atom(c.Text))
		}
		return api.Term{}, failed("error", tuple(atom(c.Text), values[0]))
	}
	m.reduce()
	switch c.Kind {
	case api.CoreCall:
		return m.body(c.Num, values)
	case api.CoreApply:
		f := values[0]
		if f.Kind != api.Fun {
			return api.Term{}, failed("error", tuple(atom("badfun"), f))
		}
		if f.Num >= len(m.funcs) || m.funcs[f.Num].Extra != len(f.Items) || m.funcs[f.Num].Arity != len(f.Items)+len(values)-1 {
			return api.Term{}, failed("error", tuple(atom("badarity"), f))
		}
		return m.body(f.Num, append(slices.Clone(f.Items), values[1:]...))
	}
	if lint.Kind(c.Text, len(values)) == lint.World {
		return m.ask(c.Text, values)
	}
	value, raised, _ := layer10.Call(c.Text, values)
	if raised.Kind != 0 {
		return api.Term{}, &raised
	}
	return value, nil
}

func fitting(t api.Term) (api.Term, *api.Term) {
	if !term.Right(t) {
		return api.Term{}, failed("error", atom("system_limit"))
	}
	return t, nil
}

func (m *model) ask(name string, args []api.Term) (api.Term, *api.Term) {
	for m.given = nil; m.given == nil; {
		m.stand(step.Event{Kind: step.Asks, Name: name, Args: args})
	}
	if m.given.raised {
		return api.Term{}, &m.given.term
	}
	return m.given.term, nil
}

func (m *model) receive(c api.Core, vars map[int]api.Term, count int) (api.Term, *api.Term) {
	clauses, time := c.Kids, int64(1<<62) // for none
	if c.Num == 1 {
		clauses = c.Kids[:len(c.Kids)-2]
		value, raised := m.reckon(c.Kids[len(c.Kids)-2], vars, count)
		if raised != nil {
			return api.Term{}, raised
		}
		if !alike(value, atom("infinity")) {
			n, ok := whole.Int(value)
			if !ok || n < 0 || n >= 1<<31 {
				return api.Term{}, failed("error", atom("timeout_value"))
			}
			time = n
		}
	}
	m.reduce()
	m.box.Begin()
	m.over = time == 0
	for {
		for letter, ok := m.box.Next(); ok && (!m.over || time == 0); letter, ok = m.box.Next() {
			if body, own := taken(clauses, letter, vars, count); body != nil {
				m.box.Take()
				return m.reckon(*body, own, count)
			}
			m.box.Skip()
		}
		if m.over {
			return m.reckon(c.Kids[len(c.Kids)-1], vars, count)
		}
		m.time = 0
		if time < 1<<62 {
			m.time = int(time)
		}
		m.stand(step.Event{Kind: step.Waits})
	}
}

// pair is a process, and the model of it, each with a box of its own.
type pair struct {
	t     testing.TB
	proc  *step.Proc
	model *model
	boxes [2]*mail.Box
	told  []func() string // what has been done
}

func pairOf(t testing.TB, p api.Program, f api.Term, args []api.Term) *pair {
	t.Helper()
	out := &pair{t: t, proc: step.New(p, f, args), model: modelOf(p, f, args), boxes: [2]*mail.Box{mail.New(), mail.New()}}
	if out.proc == nil {
		t.Fatal("no process")
	}
	return out
}

func (p *pair) tell(what func() string) { p.told = append(p.told, what) }

// differs tells that both have not come to the same.
func (p *pair) differs(got, want string) {
	p.t.Helper()
	for _, what := range p.told {
		p.t.Log(cut(what()))
	}
	p.t.Errorf("%s, not %s", cut(got), cut(want))
}

// run is what both come to, and whether that is the same, and so are their letters.
func (p *pair) run(n int) (step.Event, bool) {
	p.t.Helper()
	e, want := p.proc.Run(n, p.boxes[0]), p.model.Run(n, p.boxes[1])
	p.tell(func() string { return "Run " + strconv.Itoa(n) + ": " + shown(want) })
	if !sameEvents(e, want) {
		p.differs(shown(e), shown(want))
		return e, false
	}
	if !sameBoxes(p.boxes[0], p.boxes[1]) {
		p.differs(letters(p.boxes[0]), letters(p.boxes[1]))
		return e, false
	}
	return e, true
}

func sameEvents(a, b step.Event) bool {
	return a.Kind == b.Kind && a.Name == b.Name && a.Took == b.Took && slices.EqualFunc(a.Args, b.Args, alike) && alike(a.Reason, b.Reason)
}

// sameBoxes asks for the letters, and for the looks by what is left behind them.
func sameBoxes(a, b *mail.Box) bool {
	if !slices.EqualFunc(a.All(), b.All(), alike) {
		return false
	}
	a, b = a.Copy(), b.Copy()
	for a.Skip() == api.OK {
		if b.Skip() != api.OK {
			return false
		}
	}
	return b.Skip() != api.OK
}
