package step_test

import (
	"fmt"
	"math/rand"
	"slices"
	"testing"

	"pigeonhole/api"
	"pigeonhole/sound"
	"pigeonhole/step"
)

// maker makes sound functions by chance.
type maker struct {
	r     *rand.Rand
	funcs []api.Func // with bodies, or without yet
	vars  int
	great bool // whether there are terms of which few make one that is too great
}

// heavy is a tuple of that size, of few items.
func heavy(size int) api.Term {
	items := times((size-1)%33, atom("a"))
	return tuple(append(items, times((size-1)/33, api.Term{Kind: api.Int, Limbs: times(api.MaxLimbs, uint32(1))})...)...)
}

// some is one of these.
func some[T any](r *rand.Rand, row ...T) T { return row[r.Intn(len(row))] }

func (m *maker) term() api.Term {
	n := len(m.funcs)
	if m.great && m.r.Intn(3) == 0 {
		return heavy(some(m.r, 2040, 2048, 4000, 4091, 4092, 4093, 4094, 4095, 4096))
	}
	switch m.r.Intn(6) {
	case 0:
		f := m.r.Intn(n + 1)
		return fun(f, times(m.r.Intn(2), num(3))...)
	case 1:
		return some(m.r, tuple(), tuple(num(1), num(2)), tuple(atom("error"), atom("a")), tuple(atom("throw"), num(1)))
	case 2:
		return some(m.r, list(), list(num(1), num(2)), list(num(3)), improper(num(2), num(1)))
	case 3:
		return some(m.r, atom("a"), atom("true"), atom("false"), atom("infinity"), pid(1))
	default:
		return num(int64(m.r.Intn(4)))
	}
}

// unbound is a variable that is not bound, if there is one.
func (m *maker) unbound(bound []bool) (int, bool) {
	for range 10 {
		if n := m.r.Intn(m.vars); !bound[n] {
			return n, true
		}
	}
	return 0, false
}

func (m *maker) variable(bound []bool) (api.Core, bool) {
	for range 10 {
		if n := m.r.Intn(m.vars); bound[n] {
			return x(n), true
		}
	}
	return api.Core{}, false
}

// simple is a node without kids.
func (m *maker) simple(bound []bool) api.Core {
	if v, ok := m.variable(bound); ok && m.r.Intn(3) > 0 {
		return v
	}
	return the(m.term())
}

func (m *maker) nodes(deep, count int, bound []bool) []api.Core {
	var out []api.Core
	for range count {
		out = append(out, m.node(deep, bound))
	}
	return out
}

// node is an expression.
func (m *maker) node(deep int, bound []bool) api.Core {
	if deep <= 0 {
		return m.simple(bound)
	}
	deep -= 1 + m.r.Intn(2)
	kids := func(n int) []api.Core { return m.nodes(deep, n, bound) }
	switch m.r.Intn(16) {
	case 0:
		return row(kids(m.r.Intn(4))...)
	case 1:
		k := kids(2)
		return cell(k[0], k[1])
	case 2, 3:
		if n, ok := m.unbound(bound); ok {
			own := slices.Clone(bound)
			own[n] = true
			return let(n, kids(1)[0], m.node(deep, own))
		}
	case 4, 5:
		if f := m.r.Intn(len(m.funcs)); m.funcs[f].Extra == 0 {
			return call(f, kids(m.funcs[f].Arity)...)
		}
	case 6:
		return apply(append([]api.Core{m.fun(bound)}, kids(m.r.Intn(3))...)...)
	case 7, 8, 9:
		return m.builtIn(deep, bound)
	case 10:
		return m.fun(bound)
	case 11, 12:
		return cases(append(kids(1), m.clauses(deep, 1+m.r.Intn(3), bound)...)...)
	case 13:
		return try(append(kids(1), m.clauses(deep, 1+m.r.Intn(3), bound)...)...)
	case 14:
		if m.r.Intn(2) == 0 {
			return receive(m.clauses(deep, 1+m.r.Intn(3), bound)...)
		}
		time := the(some(m.r, num(0), num(0), num(7), num(1<<31-1), num(1<<31), atom("infinity"), atom("a")))
		return within(some(m.r, time, time, time, kids(1)[0]), kids(1)[0], m.clauses(deep, m.r.Intn(3), bound)...)
	case 15:
		return fail(some(m.r, "a", "b"), kids(m.r.Intn(2))...)
	}
	return m.simple(bound)
}

// fun is a node that is often a fun.
func (m *maker) fun(bound []bool) api.Core {
	f := m.r.Intn(len(m.funcs))
	var kids []api.Core
	for range m.funcs[f].Extra {
		v, ok := m.variable(bound)
		if !ok {
			return m.simple(bound)
		}
		kids = append(kids, v)
	}
	if m.r.Intn(8) == 0 {
		return m.simple(bound)
	}
	return closure(f, kids...)
}

func (m *maker) builtIn(deep int, bound []bool) api.Core {
	type signature struct {
		name  string
		arity int
	}
	s := some(m.r, []signature{
		{"+", 2}, {"+", 2}, {"-", 2}, {"*", 2}, {"==", 2}, {"<", 2}, {"hd", 1}, {"tl", 1}, {"++", 2}, {"reverse", 1}, {"length", 1}, {"element", 2}, {"seq", 2}, {"tuple_to_list", 1},
		{"throw", 1}, {"error", 1}, {"exit", 1}, {"self", 0}, {"print", 1}, {"print", 1}, {"!", 2}, {"exit", 2}, {"spawn", 1},
	}...)
	return bif(s.name, m.nodes(deep, s.arity, bound)...)
}

func (m *maker) clauses(deep, count int, bound []bool) []api.Core {
	var out []api.Core
	for range count {
		own := slices.Clone(bound)
		pattern := m.pattern(2, own)
		guard := of(api.GuardAny)
		for range m.r.Intn(3) {
			guard.Kids = append(guard.Kids, of(api.GuardAll, m.tests(own)...))
		}
		out = append(out, of(api.CoreClause, pattern, guard, m.node(deep, own)))
	}
	return out
}

// pattern binds in bound what it binds.
func (m *maker) pattern(deep int, bound []bool) api.Core {
	var kids []api.Core
	if deep > 0 {
		for range 2 {
			kids = append(kids, m.pattern(deep-1, bound))
		}
	}
	// Of its kids none may be left out: they have bound something.
	switch n := m.r.Intn(8); {
	case deep > 0 && n < 5:
		return some(m.r, pats(kids...), of(api.PatCons, kids...), of(api.PatBoth, kids...))
	case deep > 0:
		return of(api.PatBoth, of(api.PatBoth, kids...), wild())
	}
	switch m.r.Intn(5) {
	case 0:
		return is(m.term())
	case 1:
		if v, ok := m.variable(bound); ok {
			return same(v.Num)
		}
	case 2, 3:
		if n, ok := m.unbound(bound); ok {
			bound[n] = true
			return bind(n)
		}
	}
	return wild()
}

func (m *maker) tests(bound []bool) []api.Core {
	var out []api.Core
	for range m.r.Intn(3) {
		a, b := m.simple(bound), m.simple(bound)
		out = append(out, some(m.r, bif("is_integer", a), bif("is_atom", a), bif(">", a, b), bif("==", a, b), bif("hd", a), the(atom("true")), a, of(api.GuardAny, bif("is_list", a), bif("<", b, a)), of(api.GuardAll, bif("is_tuple", a), bif("==", bif("tuple_size", a), b))))
	}
	return out
}

// program is a program, of which each function may call each one.
func (m *maker) program() api.Program {
	m.vars = 6 + m.r.Intn(6)
	m.funcs = nil
	for range 1 + m.r.Intn(4) {
		arity := m.r.Intn(4)
		m.funcs = append(m.funcs, api.Func{Arity: arity, Extra: m.r.Intn(arity + 1), Vars: m.vars})
	}
	m.funcs[0].Extra = 0
	for i := range m.funcs {
		bound := make([]bool, m.vars)
		for n := range m.funcs[i].Arity {
			bound[n] = true
		}
		// A simple body would be all of it too often.
		deep := 2 + m.r.Intn(6)
		for m.funcs[i].Body = m.node(deep, bound); len(m.funcs[i].Body.Kids) == 0; deep++ {
			m.funcs[i].Body = m.node(deep, bound)
		}
	}
	return api.Program{Funcs: m.funcs}
}

// happens does something to both of a pair, by chance. It tells the event that they came to, and whether they hold together.
func happens(p *pair, m *maker) (e step.Event, holds bool) {
	r := m.r
	errno := func(what string, t api.Term, got, want api.Errno) bool {
		p.tell(func() string { return what + " " + entire(t) + ": " + want.Error() })
		if got != want {
			p.differs(got.Error(), want.Error())
		}
		return got == want
	}
	switch r.Intn(10) {
	case 0:
		t := m.term()
		if r.Intn(20) == 0 {
			t = some(r, api.Term{}, heavy(api.MaxSize+1))
		}
		return e, errno("Put", t, p.boxes[0].Put(t), p.boxes[1].Put(t))
	case 1:
		t := some(r, m.term(), m.term(), m.term(), api.Term{})
		return e, errno("Answer", t, p.proc.Answer(t), p.model.Answer(t))
	case 2:
		t := some(r, tuple(atom("error"), m.term()), tuple(atom("throw"), m.term()), tuple(atom("odd"), m.term()), m.term())
		return e, errno("Raise", t, p.proc.Raise(t), p.model.Raise(t))
	case 3:
		if r.Intn(3) == 0 {
			return e, errno("Over", api.Term{}, p.proc.Over(), p.model.Over())
		}
	case 4:
		a, ok := p.proc.Time()
		if b, wanted := p.model.Time(); a != b || ok != wanted {
			p.differs(fmt.Sprint(a, ok), fmt.Sprint(b, wanted))
			return e, false
		}
	default:
		return p.run(some(r, 0, 1, 1, 2, 3, 10, 50))
	}
	return e, true
}

// Words, P13.2, P13.3: programs by chance come to what the chapter says of them, whatever is done to them.
func TestProgramsByChance(t *testing.T) {
	m := &maker{r: rand.New(rand.NewSource(13))}
	came, reasons := map[int]int{}, map[string]int{}
	const runs = 6000
	for i := range runs {
		m.great = i%4 == 0
		p := m.program()
		if sound.Check(p) != api.OK {
			t.Fatal("not sound:", sound.Show(p.Funcs[0].Body))
		}
		var args []api.Term
		for range p.Funcs[0].Arity {
			args = append(args, m.term())
		}
		both := pairOf(t, p, fun(0), args)
		most := 0
		for range 30 {
			e, holds := happens(both, m)
			came[e.Kind]++
			if !holds {
				for _, f := range p.Funcs {
					t.Log(cut(sound.Show(f.Body)))
				}
				t.FailNow()
			}
			if most += e.Took; e.Kind == step.Ends || most > 400 {
				reasons[cut(entire(e.Reason))]++
				break
			}
		}
		both.model.stop()
	}
	for kind, least := range map[int]int{step.Spent: 1000, step.Asks: 1000, step.Waits: 1000, step.Ends: runs / 4} {
		if came[kind] < least {
			t.Errorf("events of the Kind %d: %d of %v", kind, came[kind], came)
		}
	}
	for _, reason := range []string{"normal", "system_limit", "timeout_value", "case_clause", "badarith", "badarg", "a", "b", "{nocatch,1}", "{badfun,1}", "{badarity,#0()}", "1"} {
		if reasons[reason] < 5 {
			t.Errorf("ended with %s: %d", reason, reasons[reason])
		}
	}
}
