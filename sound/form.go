package sound

import (
	"pigeonhole/api"
	"pigeonhole/lint"
	"pigeonhole/term"
)

// role: what a node is to the one that it is a Kid of.
type role uint8

const (
	expression role = iota
	captured        // of a CoreFun: a CoreVar
	clause
	pattern
	guard       // of a clause: a GuardAny
	alternative // of a guard: a GuardAll
	test        // a guard's expression
)

// Which fields a node has beside its Kind and its Kids.
const (
	noField = iota
	hasText
	hasNum
	hasTerm
)

// form says what a node of a Kind has in a role: its one field, and its Kids, least of them at least, in the roles of kids.
// All behind these, if there are more, have the last one of them.
type form struct {
	as    role
	kind  api.CoreKind
	field uint8
	least uint8
	kids  []role
	more  bool
}

// forms has one form at most for a role and a Kind.
var forms = [...]form{
	{expression, api.CoreConst, hasTerm, 0, nil, false},
	{expression, api.CoreVar, hasNum, 0, nil, false},
	{expression, api.CoreTuple, noField, 0, []role{expression}, true},
	{expression, api.CoreCons, noField, 2, []role{expression, expression}, false},
	{expression, api.CoreLet, hasNum, 2, []role{expression, expression}, false},
	{expression, api.CoreCall, hasNum, 0, []role{expression}, true},
	{expression, api.CoreApply, noField, 1, []role{expression}, true},
	{expression, api.CoreBif, hasText, 0, []role{expression}, true},
	{expression, api.CoreFun, hasNum, 0, []role{captured}, true},
	{expression, api.CoreCase, noField, 2, []role{expression, clause}, true},
	{expression, api.CoreReceive, hasNum, 1, []role{clause}, true},
	{expression, api.CoreTry, noField, 2, []role{expression, clause}, true},
	{expression, api.CoreFail, hasText, 0, []role{expression}, false},
	{captured, api.CoreVar, hasNum, 0, nil, false},
	{clause, api.CoreClause, noField, 3, []role{pattern, guard, expression}, false},
	{pattern, api.PatAny, noField, 0, nil, false},
	{pattern, api.PatBind, hasNum, 0, nil, false},
	{pattern, api.PatSame, hasNum, 0, nil, false},
	{pattern, api.PatConst, hasTerm, 0, nil, false},
	{pattern, api.PatTuple, noField, 0, []role{pattern}, true},
	{pattern, api.PatCons, noField, 2, []role{pattern, pattern}, false},
	{pattern, api.PatBoth, noField, 2, []role{pattern, pattern}, false},
	{guard, api.GuardAny, noField, 0, []role{alternative}, true},
	{alternative, api.GuardAll, noField, 0, []role{test}, true},
	{test, api.CoreConst, hasTerm, 0, nil, false},
	{test, api.CoreVar, hasNum, 0, nil, false},
	{test, api.CoreTuple, noField, 0, []role{test}, true},
	{test, api.CoreCons, noField, 2, []role{test, test}, false},
	{test, api.CoreBif, hasText, 0, []role{test}, true},
	{test, api.GuardAll, noField, 2, []role{test, test}, false},
	{test, api.GuardAny, noField, 2, []role{test, test}, false},
}

func formOf(kind api.CoreKind, as role) (form, bool) {
	for i := range forms {
		if forms[i].as == as && forms[i].kind == kind {
			return forms[i], true
		}
	}
	return form{}, false
}

// isExpression says whether c is one in all but its variables; c ends.
// What is still to be asked stands in a row, not on the stack: c may be deeper than that has room for.
func isExpression(c api.Core, all []api.Func) bool {
	type part struct {
		c  *api.Core
		as role
	}
	todo := []part{{&c, expression}}
	for len(todo) > 0 {
		next := todo[len(todo)-1]
		todo = todo[:len(todo)-1]
		f, ok := formOf(next.c.Kind, next.as)
		if !ok || !f.fits(next.c) || !rightFor(next.c, next.as, all) {
			return false
		}
		for i := range next.c.Kids {
			todo = append(todo, part{&next.c.Kids[i], f.role(next.c, i)})
		}
	}
	return true
}

// fits says whether c has what the form says, and nothing else.
func (f form) fits(c *api.Core) bool {
	return (f.field == hasText || c.Text == "") &&
		(f.field == hasNum || c.Num == 0) &&
		f.fitsTerm(c.Term) &&
		len(c.Kids) >= int(f.least) && (f.more || len(c.Kids) <= len(f.kids))
}

func (f form) fitsTerm(t api.Term) bool {
	if f.field == hasTerm {
		return term.Right(t)
	}
	return t.Kind == 0 && !t.Neg && t.Text == "" && t.Num == 0 &&
		len(t.Limbs) == 0 && len(t.Items) == 0 && len(t.Tail) == 0
}

// role is that of the Kid i; c is right but for its Kids.
func (f form) role(c *api.Core, i int) role {
	if c.Kind == api.CoreReceive && c.Num == 1 && i >= len(c.Kids)-2 {
		return expression
	}
	return f.kids[min(i, len(f.kids)-1)]
}

// rightFor says whether c's Text and Num are right for as many Kids as it has; variables are not asked for here.
func rightFor(c *api.Core, as role, all []api.Func) bool {
	switch c.Kind {
	case api.CoreCall:
		f, ok := function(c.Num, all)
		return ok && f.Extra == 0 && f.Arity == len(c.Kids)
	case api.CoreFun:
		f, ok := function(c.Num, all)
		return ok && f.Extra == len(c.Kids)
	case api.CoreBif:
		kind := lint.Kind(c.Text, len(c.Kids))
		return kind == lint.Guards || as == expression && kind != lint.None
	case api.CoreReceive:
		return c.Num == 0 || c.Num == 1 && len(c.Kids) >= 2
	case api.CoreFail:
		return len(c.Text) <= api.MaxName
	default:
		return true
	}
}

func function(num int, all []api.Func) (api.Func, bool) {
	if num < 0 || num >= len(all) {
		return api.Func{}, false
	}
	return all[num], true
}
