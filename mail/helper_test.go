package mail_test

import (
	"slices"
	"strconv"
	"strings"
	"testing"

	"pigeonhole/api"
	"pigeonhole/mail"
)

func limbs(neg bool, row ...uint32) api.Term {
	return api.Term{Kind: api.Int, Neg: neg, Limbs: row}
}

func atom(s string) api.Term { return api.Term{Kind: api.Atom, Text: s} }

func ref(n int) api.Term { return api.Term{Kind: api.Ref, Num: n} }

func pid(n int) api.Term { return api.Term{Kind: api.Pid, Num: n} }

func fun(n int, items ...api.Term) api.Term { return api.Term{Kind: api.Fun, Num: n, Items: items} }

func tuple(items ...api.Term) api.Term { return api.Term{Kind: api.Tuple, Items: items} }

func list(items ...api.Term) api.Term { return api.Term{Kind: api.List, Items: items} }

func improper(tail api.Term, items ...api.Term) api.Term {
	return api.Term{Kind: api.List, Items: items, Tail: []api.Term{tail}}
}

// kinds are right terms of each kind.
func kinds() []api.Term {
	return []api.Term{
		limbs(false), limbs(false, 1), limbs(true, 1), limbs(true, 0, 1), limbs(false, slices.Repeat([]uint32{^uint32(0)}, api.MaxLimbs)...),
		atom(""), atom("a"), atom(strings.Repeat("\xff", api.MaxName)),
		ref(0), ref(1 << 40), pid(0), pid(1 << 40),
		fun(0), fun(api.MaxCode, limbs(false, 1), list(atom("a"))),
		tuple(), tuple(limbs(true, 7)), tuple(tuple(atom("a")), tuple(), tuple(pid(1), ref(1))),
		list(), list(atom("a")), list(list(), list(limbs(true, 1, 2, 3)), list(atom("b"), atom("c"))),
		improper(atom("t"), atom("h")), improper(tuple(limbs(false, 5), fun(1, atom("x"))), list(atom("a")), limbs(false, 6)),
		great(api.MaxSize),
	}
}

// great is a tuple of that size.
func great(size int) api.Term { return tuple(slices.Repeat([]api.Term{atom("a")}, size-1)...) }

// flaws are terms that are not right.
func flaws() []api.Term {
	return []api.Term{
		{}, {Kind: 8}, {Kind: 255, Neg: true, Limbs: []uint32{1, 0}, Text: "x", Num: -1, Items: []api.Term{atom("a")}, Tail: []api.Term{atom("b"), atom("c")}},
		limbs(true), limbs(false, 0), limbs(false, 1, 0), limbs(false, slices.Repeat([]uint32{1}, api.MaxLimbs+1)...),
		atom(strings.Repeat("a", api.MaxName+1)), {Kind: api.Atom, Text: "a", Num: 1, Limbs: []uint32{4}}, {Kind: api.Atom, Items: []api.Term{atom("a")}},
		ref(-1), pid(1<<40 + 1), fun(-1), {Kind: api.Pid, Tail: []api.Term{limbs(false, 9)}},
		tuple(api.Term{}), {Kind: api.Tuple, Tail: []api.Term{atom("a")}},
		{Kind: api.List, Tail: []api.Term{atom("a")}}, improper(list(atom("a")), atom("b")), {Kind: api.List, Items: []api.Term{atom("a")}, Tail: []api.Term{atom("b"), tuple(atom("c"))}},
		great(api.MaxSize + 1), list(make([]api.Term, 5000)...),
	}
}

// same tells whether two terms have the same fields, all the way down; lists without elements and nil ones are one.
// Of terms that have no end, or hardly one, it looks at the first ones alone.
func same(a, b api.Term) bool {
	todo := [][2]api.Term{{a, b}}
	for looked := 0; looked < len(todo) && looked < 20000; looked++ {
		x, y := todo[looked][0], todo[looked][1]
		alike := x.Kind == y.Kind && x.Neg == y.Neg && x.Text == y.Text && x.Num == y.Num && slices.Equal(x.Limbs, y.Limbs)
		if !alike || len(x.Items) != len(y.Items) || len(x.Tail) != len(y.Tail) {
			return false
		}
		for i := range x.Items {
			todo = append(todo, [2]api.Term{x.Items[i], y.Items[i]})
		}
		for i := range x.Tail {
			todo = append(todo, [2]api.Term{x.Tail[i], y.Tail[i]})
		}
	}
	return true
}

func empty(t api.Term) bool { return same(t, api.Term{}) }

// name is the atom of a number.
func name(i int) api.Term { return atom(strconv.Itoa(i)) }

// boxOf is a box of the letters 0 to n-1, with its look at that place.
func boxOf(t *testing.T, n, look int) *mail.Box {
	t.Helper()
	b := mail.New()
	for i := range n {
		if e := b.Put(name(i)); e != api.OK {
			t.Fatalf("Put of letter %d: %v", i, e)
		}
	}
	for i := range look {
		if e := b.Skip(); e != api.OK {
			t.Fatalf("Skip of letter %d: %v", i, e)
		}
	}
	return b
}

// texts are the letters' Texts.
func texts(letters []api.Term) string {
	var out []string
	for _, t := range letters {
		out = append(out, t.Text)
	}
	return strings.Join(out, " ")
}

// numbers are the Texts of letters from first on, ahead of end.
func numbers(first, end int) string {
	var out []string
	for i := first; i < end; i++ {
		out = append(out, strconv.Itoa(i))
	}
	return strings.Join(out, " ")
}

func joined(parts ...string) string {
	return strings.Join(slices.DeleteFunc(parts, func(s string) bool { return s == "" }), " ")
}

// stands asks that a box has these letters, and its look at that place. The look is moved for that.
func stands(t *testing.T, what string, b *mail.Box, letters string, look int) {
	t.Helper()
	count := len(strings.Fields(letters))
	if got := texts(b.All()); got != letters || b.Len() != count || len(b.All()) != count {
		t.Errorf("%s: Len %d, All %s, not %s", what, b.Len(), cut(got), cut(letters))
	}
	for i := look; i < count; i++ {
		want := strings.Fields(letters)[i]
		if got, ok := b.Next(); !ok || got.Text != want {
			t.Errorf("%s: at place %d Next: %s %v, not %s", what, i, cut(got.Text), ok, want)
			return
		}
		if e := b.Skip(); e != api.OK {
			t.Errorf("%s: at place %d Skip: %v", what, i, e)
			return
		}
	}
	behind(t, what, b)
}

// behind asks that a box's look is behind the last letter.
func behind(t *testing.T, what string, b *mail.Box) {
	t.Helper()
	for range 2 {
		if x, ok := b.Next(); ok || !empty(x) {
			t.Errorf("%s: behind the last one Next: %v %v", what, x, ok)
		}
		if e := b.Skip(); e != api.ErrNone {
			t.Errorf("%s: behind the last one Skip: %v", what, e)
		}
		if x, e := b.Take(); e != api.ErrNone || !empty(x) {
			t.Errorf("%s: behind the last one Take: %v %v", what, x, e)
		}
	}
}

func cut(s string) string {
	if len(s) > 200 {
		return s[:150] + ".. (" + strconv.Itoa(len(s)) + " bytes)"
	}
	return s
}
