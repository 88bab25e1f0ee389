package mail_test

import (
	"strconv"
	"testing"

	"pigeonhole/api"
	"pigeonhole/mail"
)

// counts are how many letters boxes have.
func counts() []int { return []int{0, 1, 2, 3, 10, api.MaxMessages - 1, api.MaxMessages} }

// places are where the look of a box of n letters may be.
func places(n int) []int {
	out := []int{}
	for i := range n + 1 {
		if i < 4 || i == n/2 || i > n-3 {
			out = append(out, i)
		}
	}
	return out
}

// each calls f for boxes of all counts, with their looks at many places. make makes one of them anew.
func each(t *testing.T, f func(what string, n, look int, make func() *mail.Box)) {
	t.Helper()
	for _, n := range counts() {
		for _, look := range places(n) {
			what := strconv.Itoa(n) + " letters, the look at " + strconv.Itoa(look)
			f(what, n, look, func() *mail.Box { return boxOf(t, n, look) })
		}
	}
}

// The chapter's example. P12.1, P12.2
func TestExample(t *testing.T) {
	b := mail.New()
	put := func(s string) {
		t.Helper()
		if e := b.Put(atom(s)); e != api.OK {
			t.Errorf("Put %s: %v", s, e)
		}
	}
	next := func(s string) {
		t.Helper()
		if x, ok := b.Next(); !ok || !same(x, atom(s)) {
			t.Errorf("Next: %v %v, not %s", x, ok, s)
		}
	}
	skip := func(want api.Errno) {
		t.Helper()
		if e := b.Skip(); e != want {
			t.Errorf("Skip: %v, not %v", e, want)
		}
	}
	put("a")
	put("b")
	put("c")
	next("a")
	skip(api.OK)
	next("b")
	if x, e := b.Take(); e != api.OK || !same(x, atom("b")) {
		t.Errorf("Take: %v %v", x, e)
	}
	if got := texts(b.All()); got != "a c" {
		t.Errorf("All: %s", got)
	}
	next("a")
	skip(api.OK)
	skip(api.OK)
	if x, ok := b.Next(); ok || !empty(x) {
		t.Errorf("Next: %v %v", x, ok)
	}
	skip(api.ErrNone)
	put("d")
	next("d")
	b.Begin()
	next("a")
}

// P12.1
func TestNew(t *testing.T) {
	b, c := mail.New(), mail.New()
	if b == nil || c == nil || b == c {
		t.Fatal("no box of its own")
	}
	if b.Len() != 0 || len(b.All()) != 0 {
		t.Errorf("Len %d, All %v", b.Len(), b.All())
	}
	behind(t, "a new box", b)
	b.Put(atom("a"))
	stands(t, "another box", c, "", 0)
	stands(t, "the first letter is at the look", b, "a", 0)
}

// P12.1, P12.2: what was built is what is told; the look is where Skip brought it.
func TestCounts(t *testing.T) {
	each(t, func(what string, n, look int, make func() *mail.Box) {
		stands(t, what, make(), numbers(0, n), look)
	})
}

// P12.1
func TestPut(t *testing.T) {
	each(t, func(what string, n, look int, make func() *mail.Box) {
		b := make()
		e := b.Put(name(n))
		if n == api.MaxMessages {
			if e != api.ErrFull {
				t.Errorf("%s: Put: %v", what, e)
			}
			stands(t, what+", one too many", b, numbers(0, n), look)
			return
		}
		if e != api.OK {
			t.Errorf("%s: Put: %v", what, e)
		}
		stands(t, what+", one put", b, numbers(0, n+1), look)
	})
}

// P12.1: a box is full as long as nothing is taken, however often one puts.
func TestFull(t *testing.T) {
	const most = api.MaxMessages
	b := boxOf(t, most, most)
	for range 3 {
		if e := b.Put(atom("x")); e != api.ErrFull {
			t.Errorf("Put: %v", e)
		}
	}
	behind(t, "full, all passed by", b)
	b.Begin()
	if e := b.Put(atom("x")); e != api.ErrFull {
		t.Errorf("Put behind Begin: %v", e)
	}
	for _, at := range []int{0, most / 2, most - 1} {
		b := boxOf(t, most, at)
		if x, e := b.Take(); e != api.OK || !same(x, name(at)) {
			t.Errorf("Take at %d: %v %v", at, x, e)
		}
		if e := b.Put(atom("new")); e != api.OK {
			t.Errorf("Put behind a Take at %d: %v", at, e)
		}
		if e := b.Put(atom("newer")); e != api.ErrFull {
			t.Errorf("two Puts behind a Take at %d: %v", at, e)
		}
		stands(t, "full again", b, joined(numbers(0, at), numbers(at+1, most), "new"), 0)
	}
}

// P12.2
func TestBegin(t *testing.T) {
	each(t, func(what string, n, look int, make func() *mail.Box) {
		b := make()
		b.Begin()
		stands(t, what+", Begin", b, numbers(0, n), 0)
		b.Begin()
		stands(t, what+", Begin once more", b, numbers(0, n), 0)
	})
}

// P12.2: the look stays where it is, however often one asks.
func TestNext(t *testing.T) {
	each(t, func(what string, n, look int, make func() *mail.Box) {
		b := make()
		for range 3 {
			x, ok := b.Next()
			if ok != (look < n) || ok && !same(x, name(look)) || !ok && !empty(x) {
				t.Errorf("%s: Next: %v %v", what, x, ok)
			}
		}
		stands(t, what+", Next", b, numbers(0, n), look)
	})
}

// P12.2
func TestSkip(t *testing.T) {
	each(t, func(what string, n, look int, make func() *mail.Box) {
		b := make()
		e := b.Skip()
		if look == n {
			if e != api.ErrNone {
				t.Errorf("%s: Skip: %v", what, e)
			}
			stands(t, what+", Skip", b, numbers(0, n), n)
			return
		}
		if e != api.OK {
			t.Errorf("%s: Skip: %v", what, e)
		}
		stands(t, what+", Skip", b, numbers(0, n), look+1)
	})
}

// P12.2
func TestTake(t *testing.T) {
	each(t, func(what string, n, look int, make func() *mail.Box) {
		b := make()
		x, e := b.Take()
		if look == n {
			if e != api.ErrNone || !empty(x) {
				t.Errorf("%s: Take: %v %v", what, x, e)
			}
			stands(t, what+", Take", b, numbers(0, n), n)
			return
		}
		if e != api.OK || !same(x, name(look)) {
			t.Errorf("%s: Take: %v %v", what, x, e)
		}
		stands(t, what+", Take", b, joined(numbers(0, look), numbers(look+1, n)), 0)
	})
}

// P12.1: what is asked of a box as a whole does not move its look.
func TestAsked(t *testing.T) {
	each(t, func(what string, n, look int, make func() *mail.Box) {
		b := make()
		for range 2 {
			if b.Len() != n {
				t.Errorf("%s: Len: %d", what, b.Len())
			}
			if got := texts(b.All()); got != numbers(0, n) {
				t.Errorf("%s: All: %s", what, cut(got))
			}
			b.Copy()
		}
		stands(t, what+", Len, All and Copy", b, numbers(0, n), look)
	})
}

// P12.1: a copy has its look where the box had it, and each of the two goes its own way from there.
func TestCopy(t *testing.T) {
	each(t, func(what string, n, look int, make func() *mail.Box) {
		b := make()
		c := b.Copy()
		if c == nil || c == b {
			t.Fatalf("%s: no box of its own", what)
		}
		d := c.Copy()
		b.Begin()
		c.Put(atom("new"))
		stands(t, what+", the box", b, numbers(0, n), 0)
		stands(t, what+", its copy's copy", d, numbers(0, n), look)
		if n == api.MaxMessages {
			stands(t, what+", its copy", c, numbers(0, n), look)
		} else {
			stands(t, what+", its copy", c, joined(numbers(0, n), "new"), look)
		}
	})
}

// P12.1: taking and putting, in the box and in its copy.
func TestCopyApart(t *testing.T) {
	change := func(b *mail.Box) {
		b.Take()
		b.Put(atom("x"))
		b.Put(atom("y"))
		b.Skip()
	}
	b := boxOf(t, 6, 3)
	c := b.Copy()
	change(b)
	stands(t, "the copy of a box that was changed", c.Copy(), "0 1 2 3 4 5", 3)
	c.Take()
	c.Take()
	stands(t, "the box that was changed", b.Copy(), "0 1 2 4 5 x y", 1)
	stands(t, "the copy that was changed", c.Copy(), "1 2 4 5", 0)
	d := b.Copy()
	change(d)
	stands(t, "the box whose copy was changed", b, "0 1 2 4 5 x y", 1)
	stands(t, "its copy", d, "0 2 4 5 x y x y", 1)
}

// P12.1: a box that was full, and is so no more, is copied as what it is now; a copy has as much room as any.
func TestCopyRoom(t *testing.T) {
	b := boxOf(t, api.MaxMessages, 0)
	b.Take()
	c := b.Copy()
	for _, x := range []*mail.Box{b, c} {
		if e := x.Put(atom("new")); e != api.OK {
			t.Errorf("Put: %v", e)
		}
		if e := x.Put(atom("newer")); e != api.ErrFull {
			t.Errorf("Put: %v", e)
		}
		stands(t, "full", x, joined(numbers(1, api.MaxMessages), "new"), 0)
	}
}
