package sound_test

import (
	"fmt"
	"maps"
	"slices"
	"strings"

	"pigeonhole/api"
	"pigeonhole/lint"
	"pigeonhole/term"
)

// The chapter once more, in another way, to be held against the program: what is asked of each node is said as it stands in the tables; a fault is a panic.

type fault struct{ what string }

func must(holds bool, what string) {
	if !holds {
		panic(fault{what})
	}
}

// unsound is what is wrong with a program; nothing, if it is sound.
func unsound(p api.Program) (wrong string) {
	defer func() {
		if f, ok := recover().(fault); ok {
			wrong = f.what
		}
	}()
	for _, f := range p.Funcs {
		must(len(f.Name) <= 40, "name")
		must(f.Extra >= 0 && f.Extra <= f.Arity, "extra")
		must(f.Arity <= 12, "arity")
		must(f.Vars >= f.Arity && f.Vars <= 100, "vars")
		var b row
		for i := range f.Arity {
			b = b.and(i)
		}
		reader{p.Funcs, f.Vars}.expression(f.Body, b)
	}
	return ""
}

// row is the variables that are bound, in the order in which they were.
type row []int

func (b row) and(nums ...int) row { return append(slices.Clone(b), nums...) }

type reader struct {
	funcs []api.Func
	vars  int
}

// only asks that c has nothing but the fields that are named, and as many Kids: from least to most, or any number from least on.
func only(c api.Core, fields string, least, most int) {
	must(c.Text == "" || fields == "text", "a Text")
	must(c.Num == 0 || fields == "num", "a Num")
	if fields == "term" {
		must(term.Right(c.Term), "no right term")
	} else {
		none := fmt.Sprint(api.Term{}) // R6: empty lists and nil ones are written alike
		must(fmt.Sprint(c.Term) == none, "a Term")
	}
	must(len(c.Kids) >= least && (most < 0 || len(c.Kids) <= most), "so many Kids")
}

func (r reader) bound(num int, b row) { must(slices.Contains(b, num), "not bound") }

func (r reader) fresh(num int, b row) {
	must(!slices.Contains(b, num), "bound already")
	must(num >= 0 && num < r.vars, "no variable")
}

func (r reader) function(num int) api.Func {
	must(num >= 0 && num < len(r.funcs), "no function")
	return r.funcs[num]
}

func (r reader) expressions(kids []api.Core, b row) {
	for _, kid := range kids {
		r.expression(kid, b)
	}
}

func (r reader) expression(c api.Core, b row) {
	switch c.Kind {
	case api.CoreConst:
		only(c, "term", 0, 0)
	case api.CoreVar:
		only(c, "num", 0, 0)
		r.bound(c.Num, b)
	case api.CoreTuple:
		only(c, "", 0, -1)
		r.expressions(c.Kids, b)
	case api.CoreCons:
		only(c, "", 2, 2)
		r.expressions(c.Kids, b)
	case api.CoreLet:
		only(c, "num", 2, 2)
		r.fresh(c.Num, b)
		r.expression(c.Kids[0], b)
		r.expression(c.Kids[1], b.and(c.Num))
	case api.CoreCall:
		f := r.function(c.Num)
		must(f.Extra == 0, "a call of what has captured something")
		only(c, "num", f.Arity, f.Arity)
		r.expressions(c.Kids, b)
	case api.CoreApply:
		only(c, "", 1, -1)
		r.expressions(c.Kids, b)
	case api.CoreBif:
		only(c, "text", 0, -1)
		must(lint.Kind(c.Text, len(c.Kids)) != 0, "not built in")
		r.expressions(c.Kids, b)
	case api.CoreFun:
		f := r.function(c.Num)
		only(c, "num", f.Extra, f.Extra)
		for _, kid := range c.Kids {
			must(kid.Kind == api.CoreVar, "captured: no variable")
			r.expression(kid, b)
		}
	case api.CoreFail:
		only(c, "text", 0, 1)
		must(len(c.Text) <= 40, "a long Text")
		r.expressions(c.Kids, b)
	default:
		r.choice(c, b)
	}
}

// choice is an expression that has clauses.
func (r reader) choice(c api.Core, b row) {
	switch {
	case c.Kind == api.CoreCase || c.Kind == api.CoreTry:
		only(c, "", 2, -1)
		r.expression(c.Kids[0], b)
		r.clauses(c.Kids[1:], b)
	case c.Kind == api.CoreReceive && c.Num == 0:
		only(c, "", 1, -1)
		r.clauses(c.Kids, b)
	case c.Kind == api.CoreReceive && c.Num == 1:
		only(c, "num", 2, -1)
		last := len(c.Kids) - 2
		r.clauses(c.Kids[:last], b)
		r.expressions(c.Kids[last:], b)
	default:
		must(false, "no expression")
	}
}

func (r reader) clauses(kids []api.Core, b row) {
	for _, kid := range kids {
		must(kid.Kind == api.CoreClause, "no clause")
		only(kid, "", 3, 3)
		inner := r.pattern(kid.Kids[0], b)
		r.guard(kid.Kids[1], inner)
		r.expression(kid.Kids[2], inner)
	}
}

// pattern is what is bound behind one.
func (r reader) pattern(c api.Core, b row) row {
	switch c.Kind {
	case api.PatAny:
		only(c, "", 0, 0)
	case api.PatBind:
		only(c, "num", 0, 0)
		r.fresh(c.Num, b)
		return b.and(c.Num)
	case api.PatSame:
		only(c, "num", 0, 0)
		r.bound(c.Num, b)
	case api.PatConst:
		only(c, "term", 0, 0)
	case api.PatTuple:
		only(c, "", 0, -1)
	case api.PatCons, api.PatBoth:
		only(c, "", 2, 2)
	default:
		must(false, "no pattern")
	}
	for _, kid := range c.Kids {
		b = r.pattern(kid, b)
	}
	return b
}

func (r reader) guard(c api.Core, b row) {
	must(c.Kind == api.GuardAny, "no guard")
	only(c, "", 0, -1)
	for _, kid := range c.Kids {
		must(kid.Kind == api.GuardAll, "no GuardAll")
		only(kid, "", 0, -1)
		r.tests(kid.Kids, b)
	}
}

func (r reader) tests(kids []api.Core, b row) {
	for _, c := range kids {
		switch c.Kind {
		case api.CoreConst, api.CoreVar:
			r.expression(c, b)
		case api.CoreTuple:
			only(c, "", 0, -1)
		case api.CoreBif:
			only(c, "text", 0, -1)
			must(lint.Kind(c.Text, len(c.Kids)) == 2, "not of guards")
		case api.CoreCons, api.GuardAll, api.GuardAny:
			only(c, "", 2, 2)
		default:
			must(false, "no guard's expression")
		}
		r.tests(c.Kids, b)
	}
}

// nums is a set.
type nums map[int]int

func (n nums) put(others nums) { maps.Copy(n, others) }

// less is n without others.
func (n nums) less(others nums) nums {
	out := nums{}
	for num := range n {
		if _, ok := others[num]; !ok {
			out[num] = 1
		}
	}
	return out
}

func (n nums) rising() []int {
	var out []int
	for num := range n {
		out = append(out, num)
	}
	slices.Sort(out)
	return out
}

func boundByWords(c api.Core) nums {
	out := nums{}
	visit(&c, func(c *api.Core) {
		if c.Kind == api.PatBind {
			out[c.Num] = 1
		}
	})
	return out
}

// freeByWords says it from within: what is free in a Kid, less what is bound for it.
func freeByWords(c api.Core) nums {
	out, own := nums{}, nums{}
	for i, kid := range c.Kids {
		switch {
		case c.Kind == api.CoreLet && i > 0, c.Kind == api.PatBind:
			own[c.Num] = 1
		case c.Kind == api.CoreClause && i == 1, i > 0 && (c.Kind == api.PatTuple || c.Kind == api.PatCons || c.Kind == api.PatBoth):
			own.put(boundByWords(c.Kids[i-1]))
		}
		out.put(freeByWords(kid).less(own))
	}
	if c.Kind == api.CoreVar || c.Kind == api.PatSame {
		out[c.Num] = 1
	}
	return out
}

// The promise's words, as they stand there.
const (
	coreWords  = "const var tuple cons let call apply bif fun case receive try clause fail"
	patWords   = "any bind same const tuple cons both"
	guardWords = "all any"
)

func wordOf(kind api.CoreKind) string {
	for first, text := range map[int]string{1: coreWords, 20: patWords, 30: guardWords} {
		all := strings.Fields(text)
		if at := int(kind) - first; at >= 0 && at < len(all) {
			return all[at]
		}
	}
	return "?"
}

func showByWords(c api.Core) string {
	out := []string{wordOf(c.Kind)}
	switch n := len(c.Text); {
	case n > 40:
		out = append(out, "")
	case n > 0:
		out = append(out, term.Text(atom(c.Text)))
	}
	if c.Num != 0 {
		out = append(out, fmt.Sprint(c.Num))
	}
	if term.Right(c.Term) {
		out = append(out, term.Text(c.Term))
	}
	for _, kid := range c.Kids {
		out = append(out, "("+showByWords(kid)+")")
	}
	return strings.Join(out, " ")
}
