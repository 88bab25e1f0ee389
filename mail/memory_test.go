package mail_test

import (
	"testing"

	"pigeonhole/api"
	"pigeonhole/mail"
)

// letters are terms of each kind, and such as are not right; each time in new memory.
func letters() []api.Term { return append(kinds(), flaws()...) }

// spoil changes all that is in a term's rows.
func spoil(t api.Term) {
	for i := range t.Limbs {
		t.Limbs[i] ^= 0xdead
	}
	for _, row := range [][]api.Term{t.Items, t.Tail} {
		for i := range row {
			spoil(row[i])
			row[i] = atom("spoilt")
		}
	}
}

// next asks that b's next letter is that one.
func next(t *testing.T, what string, b *mail.Box, want api.Term) api.Term {
	t.Helper()
	x, ok := b.Next()
	if !ok || !same(x, want) {
		t.Errorf("%s: Next: %v, not of kind %d as it came", what, ok, want.Kind)
	}
	return x
}

// P12.1, P12.2: any term is a letter, and comes as it was put.
func TestLetters(t *testing.T) {
	want := letters()
	b := mail.New()
	for i, x := range letters() {
		if e := b.Put(x); e != api.OK {
			t.Errorf("Put of letter %d: %v", i, e)
		}
		if !same(x, want[i]) {
			t.Errorf("letter %d was changed by Put", i)
		}
	}
	for _, c := range []*mail.Box{b, b.Copy()} {
		all := c.All()
		if c.Len() != len(want) || len(all) != len(want) {
			t.Fatalf("Len %d, All %d", c.Len(), len(all))
		}
		for i := range want {
			if !same(all[i], want[i]) {
				t.Errorf("All: letter %d", i)
			}
			next(t, "in order", c, want[i])
			if x, e := c.Take(); e != api.OK || !same(x, want[i]) {
				t.Errorf("Take: letter %d: %v", i, e)
			}
		}
	}
}

// P12.1, R3: no letter is kept in the memory in which it came, nor handed out in the box's.
func TestLettersApart(t *testing.T) {
	want := letters()
	for i, x := range letters() {
		b := mail.New()
		b.Put(x)
		spoil(x)
		spoil(next(t, "behind a change of what was put", b, want[i]))
		next(t, "behind a change of what Next answered", b, want[i])
		all := b.All()
		spoil(tuple(all...))
		next(t, "behind a change of what All answered", b, want[i])
		c := b.Copy()
		spoil(next(t, "in a copy", c, want[i]))
		taken, _ := c.Take()
		if !same(taken, want[i]) {
			t.Errorf("letter %d is taken out of a copy as another one", i)
		}
		spoil(taken)
		next(t, "behind a change of what was taken out of its copy", b, want[i])
		d := b.Copy()
		taken, _ = b.Take()
		spoil(taken)
		next(t, "in a copy, behind a change of what was taken out of its box", d, want[i])
	}
}

// R3: what is put again is a letter of its own.
func TestPutAgain(t *testing.T) {
	want := letters()
	for i, x := range letters() {
		b := mail.New()
		b.Put(x)
		b.Put(x)
		taken, _ := b.Take()
		b.Put(taken)
		spoil(taken)
		spoil(x)
		all := b.All()
		spoil(all[0])
		if !same(all[1], want[i]) {
			t.Errorf("All: two letters of kind %d share memory", want[i].Kind)
		}
		for range 2 {
			if x, _ := b.Take(); !same(x, want[i]) {
				t.Errorf("Take: letter %d was changed", i)
			}
		}
	}
}

// R3: the row that All answers is its own, also behind its end.
func TestAllRow(t *testing.T) {
	b := boxOf(t, 5, 2)
	all := b.All()
	_ = append(all[:1], atom("x"), atom("y"))
	_ = append(all, atom("z"))
	b.Put(atom("5"))
	if texts(all) != "0 x y 3 4" {
		t.Errorf("what All answered became %s", texts(all))
	}
	stands(t, "behind a change of All's row", b, "0 1 2 3 4 5", 2)
}

// R3: rows that stand more than once in a letter's memory stand apart in what is handed out.
func TestPartsApart(t *testing.T) {
	shared := func() api.Term {
		number := limbs(true, 1, 2)
		part := improper(number, number, fun(1, number, atom("a")))
		return api.Term{Kind: api.Tuple, Items: []api.Term{part, part, list(part, part)}, Tail: []api.Term{part}}
	}
	apart := func(what string, x api.Term) {
		t.Helper()
		spoil(x.Items[0])
		rest := shared()
		for i, y := range []api.Term{x.Items[1], x.Items[2], x.Tail[0]} {
			if want := []api.Term{rest.Items[1], rest.Items[2], rest.Tail[0]}[i]; !same(y, want) {
				t.Errorf("%s: part %d shares memory with the first one", what, i)
			}
		}
		x.Items[1].Items[0].Limbs[0] = 77
		if !same(x.Items[1].Tail[0], limbs(true, 1, 2)) {
			t.Errorf("%s: two integers share their limbs", what)
		}
	}
	b := mail.New()
	b.Put(shared())
	x, _ := b.Next()
	apart("Next", x)
	apart("All", b.All()[0])
	apart("a copy's All", b.Copy().All()[0])
	x, _ = b.Copy().Take()
	apart("a copy's Take", x)
	x, _ = b.Take()
	apart("Take", x)
}

// R3: the same of right terms of the greatest size, in a box that is full of them.
func TestGreatPartsApart(t *testing.T) {
	part := tuple(atom("a"))
	row := make([]api.Term, 2047)
	for i := range row {
		row[i] = part
	}
	ones := limbs(false, 1, 1, 1, 1, 1, 1, 1)
	numbers := make([]api.Term, 511)
	for i := range numbers {
		numbers[i] = ones
	}
	b := mail.New()
	for range 100 {
		b.Put(tuple(row...))
		b.Put(tuple(numbers...))
	}
	all := b.All()
	for i := 0; i < len(all); i += 2 {
		for k := range all[i].Items {
			if got := all[i].Items[k].Items[0].Text; got != "a" {
				t.Fatalf("letter %d, item %d shares memory with an earlier one", i, k)
			}
			all[i].Items[k].Items[0] = atom("b")
		}
		for k := range all[i+1].Items {
			if got := all[i+1].Items[k].Limbs[6]; got != 1 {
				t.Fatalf("letter %d, item %d shares limbs with an earlier one", i+1, k)
			}
			all[i+1].Items[k].Limbs[6] = 2
		}
	}
}
