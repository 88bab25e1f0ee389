package mail_test

import (
	"math/rand"
	"slices"
	"strconv"
	"strings"
	"testing"

	"pigeonhole/api"
	"pigeonhole/mail"
)

// P12.3: with nothing passed by, letters are taken in the order in which they came.
func TestTakenInOrder(t *testing.T) {
	b := boxOf(t, 5, 0)
	come := 5
	for i := range 3000 {
		x, e := b.Take()
		if e != api.OK || !same(x, name(i)) {
			t.Fatalf("Take of letter %d: %v %v", i, x, e)
		}
		for range 1 + i%2*i%3 {
			if b.Put(name(come)) == api.OK {
				come++
			}
		}
	}
}

// P12.3: what is passed by stays, in order, and is taken in that order behind a Take.
func TestPassedByStays(t *testing.T) {
	const n = 200
	b := boxOf(t, n, 0)
	for i := 1; i < n; i += 2 {
		for x, ok := b.Next(); ok && x.Text != strconv.Itoa(i); x, ok = b.Next() {
			b.Skip()
		}
		if x, e := b.Take(); e != api.OK || !same(x, name(i)) {
			t.Fatalf("Take of letter %d: %v %v", i, x, e)
		}
	}
	if b.Len() != n/2 {
		t.Errorf("Len: %d", b.Len())
	}
	for i := 0; i < n; i += 2 {
		if x, e := b.Take(); e != api.OK || !same(x, name(i)) {
			t.Fatalf("Take of letter %d, which was passed by: %v %v", i, x, e)
		}
	}
	stands(t, "nothing left", b, "", 0)
}

// P12.3: a letter that comes while all were passed by is the next one; those that come behind it come behind it.
func TestComesWhileAllPassedBy(t *testing.T) {
	for _, n := range counts() {
		if n > api.MaxMessages-2 {
			continue
		}
		b := boxOf(t, n, n)
		behind(t, "all passed by", b)
		b.Put(atom("x"))
		b.Put(atom("y"))
		c := b.Copy()
		if x, ok := b.Next(); !ok || !same(x, atom("x")) {
			t.Errorf("of %d letters: Next: %v %v", n, x, ok)
		}
		if x, e := b.Take(); e != api.OK || !same(x, atom("x")) {
			t.Errorf("of %d letters: Take: %v %v", n, x, e)
		}
		stands(t, "the new one taken", b, joined(numbers(0, n), "y"), 0)
		c.Skip()
		c.Put(atom("z"))
		stands(t, "the new one passed by", c, joined(numbers(0, n), "x y z"), n+1)
	}
}

// A desk is the chapter once more: letters that were passed by, and those that were not.
type desk struct{ passed, ahead []string }

func (d *desk) put(s string) api.Errno {
	if len(d.passed)+len(d.ahead) == 1024 {
		return api.ErrFull
	}
	d.ahead = append(d.ahead, s)
	return api.OK
}

func (d *desk) begin() { d.passed, d.ahead = nil, slices.Concat(d.passed, d.ahead) }

func (d *desk) next() (string, bool) {
	if len(d.ahead) == 0 {
		return "", false
	}
	return d.ahead[0], true
}

func (d *desk) skip() api.Errno {
	if len(d.ahead) == 0 {
		return api.ErrNone
	}
	d.passed, d.ahead = append(d.passed, d.ahead[0]), d.ahead[1:]
	return api.OK
}

func (d *desk) take() (string, api.Errno) {
	if len(d.ahead) == 0 {
		return "", api.ErrNone
	}
	s := d.ahead[0]
	d.ahead = d.ahead[1:]
	d.begin()
	return s, api.OK
}

func (d *desk) copied() *desk { return &desk{slices.Clone(d.passed), slices.Clone(d.ahead)} }

// pair is a box and what it must be.
type pair struct {
	box  *mail.Box
	desk *desk
}

// does does something by chance to both, and asks that they answer the same; puts is how many of ten calls are Puts.
func (p pair) does(t *testing.T, r *rand.Rand, come *int, puts int) {
	t.Helper()
	if r.Intn(10) < puts {
		*come++
		s := strconv.Itoa(*come)
		if got, want := p.box.Put(atom(s)), p.desk.put(s); got != want {
			t.Fatalf("Put: %v, not %v", got, want)
		}
		return
	}
	switch r.Intn(12) {
	case 0:
		p.box.Begin()
		p.desk.begin()
	case 1, 2, 3, 4, 5, 6:
		if got, want := p.box.Skip(), p.desk.skip(); got != want {
			t.Fatalf("Skip: %v, not %v", got, want)
		}
	case 7, 8:
		got, e := p.box.Take()
		want, f := p.desk.take()
		if got.Text != want || e != f || e != api.OK && !empty(got) {
			t.Fatalf("Take: %v %v, not %s %v", got, e, want, f)
		}
	}
	got, ok := p.box.Next()
	if want, has := p.desk.next(); got.Text != want || ok != has || !ok && !empty(got) {
		t.Fatalf("Next: %v %v, not %s %v", got, ok, want, has)
	}
}

func (p pair) isSame(t *testing.T) {
	t.Helper()
	want := slices.Concat(p.desk.passed, p.desk.ahead)
	if got := texts(p.box.All()); got != strings.Join(want, " ") || p.box.Len() != len(want) {
		t.Fatalf("All: %s, not %s; Len %d", cut(got), cut(strings.Join(want, " ")), p.box.Len())
	}
}

// P12.1, P12.2, P12.3: calls by chance, of boxes and of their copies.
func TestByChance(t *testing.T) {
	r := rand.New(rand.NewSource(12))
	for round := range 300 {
		come := 0
		pairs := []pair{{mail.New(), &desk{}}}
		for range 400 {
			p := pairs[r.Intn(len(pairs))]
			p.does(t, r, &come, round%10)
			if r.Intn(40) == 0 {
				pairs = append(pairs, pair{p.box.Copy(), p.desk.copied()})
			}
			if r.Intn(10) == 0 {
				p.isSame(t)
			}
		}
		for _, p := range pairs {
			p.isSame(t)
		}
	}
}

// P12.1, P12.2: the same at boxes that are nearly full.
func TestByChanceNearlyFull(t *testing.T) {
	r := rand.New(rand.NewSource(13))
	for range 4 {
		come := 0
		p := pair{mail.New(), &desk{}}
		for range api.MaxMessages - 5 {
			p.does(t, r, &come, 10)
		}
		for range 3000 {
			p.does(t, r, &come, 2)
			if r.Intn(50) == 0 {
				p.isSame(t)
			}
		}
	}
}
