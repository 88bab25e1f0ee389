package mail_test

import (
	"testing"

	"pigeonhole/api"
	"pigeonhole/mail"
)

// isNone asks that b is no box: each of its calls does nothing, and answers zero values, ErrNil where it answers an error.
func isNone(t *testing.T, what string, b *mail.Box) {
	t.Helper()
	for range 2 {
		if e := b.Put(atom("a")); e != api.ErrNil {
			t.Errorf("%s: Put: %v", what, e)
		}
		b.Begin()
		if x, ok := b.Next(); ok || !empty(x) {
			t.Errorf("%s: Next: %v %v", what, x, ok)
		}
		if e := b.Skip(); e != api.ErrNil {
			t.Errorf("%s: Skip: %v", what, e)
		}
		if x, e := b.Take(); e != api.ErrNil || !empty(x) {
			t.Errorf("%s: Take: %v %v", what, x, e)
		}
		if n := b.Len(); n != 0 {
			t.Errorf("%s: Len: %d", what, n)
		}
		if l := b.All(); len(l) != 0 {
			t.Errorf("%s: All: %v", what, l)
		}
		if c := b.Copy(); c != nil {
			t.Errorf("%s: Copy: %v", what, c)
		}
	}
}

// P12.1, P12.2, R5
func TestNone(t *testing.T) {
	isNone(t, "nil", nil)
	isNone(t, "a box that nobody made", &mail.Box{})
	isNone(t, "another one", new(mail.Box))
	var inside struct{ box mail.Box }
	isNone(t, "one inside of something", &inside.box)
	isNone(t, "the copy of none", new(mail.Box).Copy())
}

// R5: what New and Copy answered is a box; its value in another place is none, and the box is not touched by what is asked of that.
func TestValueElsewhere(t *testing.T) {
	for _, n := range []int{0, 1, 5, api.MaxMessages} {
		b := boxOf(t, n, n/2)
		value, copied := *b, *b.Copy()
		isNone(t, "a box's value", &value)
		isNone(t, "a copy's value", &copied)
		stands(t, "the box itself", b, numbers(0, n), n/2)
	}
	b := boxOf(t, 3, 1)
	*b = mail.Box{}
	isNone(t, "a box that was made nothing", b)
}
