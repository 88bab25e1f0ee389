package match_test

import (
	"slices"
	"strings"

	"pigeonhole/api"
	layer10 "pigeonhole/bif"
	"pigeonhole/match"
	"pigeonhole/term"
)

// The chapter once more, in another way, to be held against the program: it calls itself, part by part; what is bound is a chain; terms are held against each other as texts; where something does not match, or fails, is a panic.

type nothing struct{}

func orElse(holds bool) {
	if !holds {
		panic(nothing{})
	}
}

// known is what variables have: the newest value is nearest.
type known struct {
	num   int
	value api.Term
	ahead *known
}

// newest is the value that a variable has now.
func (k *known) newest(num int) api.Term {
	for ; k != nil; k = k.ahead {
		if k.num == num {
			return k.value
		}
	}
	panic(nothing{})
}

// chain is all that v has.
func chain(v match.Vars) *known {
	orElse(len(v.Has) == len(v.Values))
	var k *known
	for i, t := range v.Values {
		if v.Has[i] {
			k = &known{i, t, k}
		}
	}
	return k
}

func sameText(a, b api.Term) bool {
	return term.Right(a) && term.Right(b) && entire(a) == entire(b)
}

// saidOfMatch is what the chapter says of Match, as told writes it.
func saidOfMatch(p api.Core, t api.Term, v match.Vars) (out string) {
	defer func() {
		if _, ok := recover().(nothing); ok {
			out = "no"
		}
	}()
	k := chain(v)
	orElse(term.Right(t))
	k = bound(p, t, k, len(v.Has))
	var texts []string
	for i := range v.Has {
		texts = append(texts, textOf(k, i))
	}
	return strings.Join(texts, " ")
}

func textOf(k *known, num int) (out string) {
	defer func() {
		if _, ok := recover().(nothing); ok {
			out = "-"
		}
	}()
	return entire(k.newest(num))
}

func bound(p api.Core, t api.Term, k *known, count int) *known {
	switch p.Kind {
	case api.PatAny:
	case api.PatBind:
		orElse(p.Num >= 0 && p.Num < count)
		k = &known{p.Num, t, k}
	case api.PatSame:
		orElse(sameText(k.newest(p.Num), t))
	case api.PatConst:
		orElse(sameText(p.Term, t))
	case api.PatTuple:
		orElse(t.Kind == api.Tuple && len(t.Items) == len(p.Kids))
		for i, kid := range p.Kids {
			k = bound(kid, t.Items[i], k, count)
		}
	case api.PatCons:
		h, r, ok := term.Split(t)
		orElse(ok && len(p.Kids) == 2)
		k = bound(p.Kids[1], r, bound(p.Kids[0], h, k, count), count)
	case api.PatBoth:
		orElse(len(p.Kids) == 2)
		k = bound(p.Kids[1], t, bound(p.Kids[0], t, k, count), count)
	default:
		panic(nothing{})
	}
	return k
}

// saidOfGuard is what the chapter says of Guard.
func saidOfGuard(g api.Core, v match.Vars) bool {
	if len(v.Has) != len(v.Values) || g.Kind != api.GuardAny {
		return false
	}
	k := chain(v)
	for _, kid := range g.Kids {
		if isTrue(kid, k) {
			return true
		}
	}
	return len(g.Kids) == 0
}

func isTrue(c api.Core, k *known) (out bool) {
	defer func() {
		if _, ok := recover().(nothing); ok {
			out = false
		}
	}()
	return entire(valueOf(c, k)) == "true"
}

func valueOf(c api.Core, k *known) api.Term {
	each := func() []api.Term {
		var out []api.Term
		for _, kid := range c.Kids {
			out = append(out, valueOf(kid, k))
		}
		return out
	}
	made := func(t api.Term) api.Term {
		orElse(measured(t) <= 4096)
		return t
	}
	switch c.Kind {
	case api.CoreConst:
		orElse(term.Right(c.Term))
		return c.Term
	case api.CoreVar:
		return k.newest(c.Num)
	case api.CoreTuple:
		return made(tuple(each()...))
	case api.CoreCons:
		orElse(len(c.Kids) == 2)
		kids := each()
		if rest := kids[1]; rest.Kind == api.List {
			return made(api.Term{Kind: api.List, Items: slices.Concat(kids[:1], rest.Items), Tail: rest.Tail})
		}
		return made(improper(kids[1], kids[0]))
	case api.CoreBif:
		orElse(slices.Contains(signatures(forGuards), signature{c.Text, len(c.Kids)}))
		value, _, _ := layer10.Call(c.Text, each())
		orElse(!zero(value))
		return value
	case api.GuardAll:
		return lastOf(c.Kids, k, "true", "false")
	case api.GuardAny:
		return lastOf(c.Kids, k, "false", "true")
	}
	panic(nothing{})
}

// lastOf asks one Kid, and then, if its value is goesOn, those behind it.
func lastOf(kids []api.Core, k *known, goesOn, ends string) api.Term {
	if len(kids) == 0 {
		return atom(goesOn)
	}
	value := valueOf(kids[0], k)
	if len(kids) == 1 || entire(value) == ends {
		return value
	}
	orElse(entire(value) == goesOn)
	return lastOf(kids[1:], k, goesOn, ends)
}

// measured is a term's size, as chapter 2 has it.
func measured(t api.Term) int {
	n := 1 + len(t.Limbs)
	for _, x := range slices.Concat(t.Items, t.Tail) {
		n += measured(x)
	}
	switch t.Kind {
	case api.Fun:
		return n + 1
	case api.List:
		return n + len(t.Items)
	}
	return n
}
