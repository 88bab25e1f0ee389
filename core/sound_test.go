package core_test

import (
	"fmt"
	"maps"

	"pigeonhole/api"
	"pigeonhole/lint"
	"pigeonhole/term"
)

// What chapter 9 asks of a program, said once more: a fault is a panic of its text.

type sounder struct {
	program api.Program
	vars    int
}

type bound map[int]struct{}

func must(holds bool, what string, about ...any) {
	if !holds {
		panic(what + ": " + fmt.Sprint(about...))
	}
}

// unsound is what is wrong with a program; nothing, if it is sound.
func unsound(p api.Program) (wrong string) {
	defer func() {
		if s, ok := recover().(string); ok {
			wrong = s
		}
	}()
	must(len(p.Funcs) <= 16384, "functions", len(p.Funcs))
	for _, f := range p.Funcs {
		must(len(f.Name) <= 40 && 0 <= f.Extra && f.Extra <= f.Arity && f.Arity <= 12 && f.Arity <= f.Vars && f.Vars <= 100, "numbers of a function", f)
		has := bound{}
		for i := range f.Arity {
			has[i] = struct{}{}
		}
		s := sounder{p, f.Vars}
		s.expression(f.Body, has)
	}
	return ""
}

// has asks that c has no more than it may.
func has(c api.Core, text, num, holds bool, least, most int) {
	must(text || c.Text == "", "a Text", c)
	must(num || c.Num == 0, "a Num", c)
	if holds {
		must(term.Right(c.Term), "no right term", c)
	} else {
		t := c.Term
		must(t.Kind == 0 && !t.Neg && t.Text == "" && t.Num == 0 && len(t.Limbs)+len(t.Items)+len(t.Tail) == 0, "a Term", c)
	}
	must(len(c.Kids) >= least && (len(c.Kids) <= most || most < 0), "so many Kids", c)
}

func (s sounder) known(num int, b bound) {
	_, ok := b[num]
	must(ok && num < s.vars, "not bound", num)
}

func (s sounder) binds(num int, b bound) {
	_, ok := b[num]
	must(!ok && 0 <= num && num < s.vars, "bound already, or none", num)
	b[num] = struct{}{}
}

func (s sounder) expressions(row []api.Core, b bound) {
	for _, c := range row {
		s.expression(c, b)
	}
}

func (s sounder) expression(c api.Core, b bound) {
	switch c.Kind {
	case api.CoreConst:
		has(c, false, false, true, 0, 0)
	case api.CoreVar:
		has(c, false, true, false, 0, 0)
		s.known(c.Num, b)
	case api.CoreTuple:
		has(c, false, false, false, 0, -1)
		s.expressions(c.Kids, b)
	case api.CoreCons:
		has(c, false, false, false, 2, 2)
		s.expressions(c.Kids, b)
	case api.CoreLet:
		has(c, false, true, false, 2, 2)
		s.expression(c.Kids[0], b)
		inner := maps.Clone(b)
		s.binds(c.Num, inner)
		s.expression(c.Kids[1], inner)
	case api.CoreCall:
		f := s.program.Funcs[c.Num]
		has(c, false, true, false, f.Arity, f.Arity)
		must(f.Extra == 0, "a call of a fun", c.Num)
		s.expressions(c.Kids, b)
	case api.CoreApply:
		has(c, false, false, false, 1, -1)
		s.expressions(c.Kids, b)
	case api.CoreBif:
		has(c, true, false, false, 0, -1)
		must(lint.Kind(c.Text, len(c.Kids)) != lint.None, "not built in", c.Text)
		s.expressions(c.Kids, b)
	case api.CoreFun:
		extra := s.program.Funcs[c.Num].Extra
		has(c, false, true, false, extra, extra)
		for _, kid := range c.Kids {
			must(kid.Kind == api.CoreVar, "captured", kid)
		}
		s.expressions(c.Kids, b)
	case api.CoreFail:
		has(c, true, false, false, 0, 1)
		must(len(c.Text) <= 40, "a long Text", c.Text)
		s.expressions(c.Kids, b)
	default:
		s.claused(c, b)
	}
}

func (s sounder) claused(c api.Core, b bound) {
	clauses := c.Kids
	switch c.Kind {
	case api.CoreCase, api.CoreTry:
		has(c, false, false, false, 2, -1)
		s.expression(c.Kids[0], b)
		clauses = c.Kids[1:]
	case api.CoreReceive:
		has(c, false, true, false, 1+c.Num, -1)
		must(c.Num == 0 || c.Num == 1, "a receive", c.Num)
		if c.Num == 1 {
			clauses = c.Kids[:len(c.Kids)-2]
			s.expressions(c.Kids[len(c.Kids)-2:], b)
		}
	default:
		must(false, "no expression", c)
	}
	for _, n := range clauses {
		must(n.Kind == api.CoreClause, "no clause", n)
		has(n, false, false, false, 3, 3)
		inner := maps.Clone(b)
		s.pattern(n.Kids[0], inner)
		s.guards(n.Kids[1], inner)
		s.expression(n.Kids[2], inner)
	}
}

func (s sounder) pattern(c api.Core, b bound) {
	switch c.Kind {
	case api.PatAny:
		has(c, false, false, false, 0, 0)
	case api.PatBind:
		has(c, false, true, false, 0, 0)
		s.binds(c.Num, b)
	case api.PatSame:
		has(c, false, true, false, 0, 0)
		s.known(c.Num, b)
	case api.PatConst:
		has(c, false, false, true, 0, 0)
	case api.PatTuple:
		has(c, false, false, false, 0, -1)
	case api.PatCons, api.PatBoth:
		has(c, false, false, false, 2, 2)
	default:
		must(false, "no pattern", c)
	}
	for _, kid := range c.Kids {
		s.pattern(kid, b)
	}
}

func (s sounder) guards(c api.Core, b bound) {
	must(c.Kind == api.GuardAny, "no guard", c)
	has(c, false, false, false, 0, -1)
	for _, all := range c.Kids {
		must(all.Kind == api.GuardAll, "no GuardAll", all)
		has(all, false, false, false, 0, -1)
		for _, kid := range all.Kids {
			s.guard(kid, b)
		}
	}
}

func (s sounder) guard(c api.Core, b bound) {
	switch c.Kind {
	case api.CoreConst, api.CoreVar:
		s.expression(c, b)
		return
	case api.CoreTuple:
		has(c, false, false, false, 0, -1)
	case api.CoreCons, api.GuardAll, api.GuardAny:
		has(c, false, false, false, 2, 2)
	case api.CoreBif:
		has(c, true, false, false, 0, -1)
		must(lint.Kind(c.Text, len(c.Kids)) == lint.Guards, "not in guards", c.Text)
	default:
		must(false, "no guard's expression", c)
	}
	for _, kid := range c.Kids {
		s.guard(kid, b)
	}
}

// uncounted is what is wrong with the order in which variables and helpers are numbered: each function's variables behind its parameters are bound in the order of their numbers, each once, none left out; helpers, behind the functions that have names, are found in the order of theirs.
func uncounted(p api.Program, named int) (wrong string) {
	defer func() {
		if s, ok := recover().(string); ok {
			wrong = s
		}
	}()
	for i, f := range p.Funcs {
		next := f.Arity
		binders(f.Body, &next)
		must(next == f.Vars, "Vars", i, next, f.Vars)
		must(i < named || f.Name == "", "a helper with a name", i, f.Name)
		must(i >= named || f.Extra == 0, "a function with captured ones", i, f.Name)
	}
	next := named
	for _, f := range p.Funcs[:named] {
		helpers(p, f.Body, &next)
	}
	must(next == len(p.Funcs), "helpers", next)
	return ""
}

func binders(c api.Core, next *int) {
	count := func() {
		must(c.Num == *next, "a variable out of order", c.Num, *next)
		*next++
	}
	if c.Kind == api.PatBind {
		count()
	}
	for i, kid := range c.Kids {
		if c.Kind == api.CoreLet && i == 1 {
			count()
		}
		binders(kid, next)
	}
}

func helpers(p api.Program, c api.Core, next *int) {
	if (c.Kind == api.CoreCall || c.Kind == api.CoreFun) && c.Num >= *next {
		must(c.Num == *next, "a helper out of order", c.Num, *next)
		*next++
		helpers(p, p.Funcs[c.Num].Body, next)
	}
	for _, kid := range c.Kids {
		helpers(p, kid, next)
	}
}
