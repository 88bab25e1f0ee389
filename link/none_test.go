package link_test

import (
	"testing"

	"pigeonhole/link"
)

// isNone asks that l are no Links: each of their calls does nothing, and answers zero values.
func isNone(t *testing.T, what string, l *link.Links) {
	t.Helper()
	for range 2 {
		for _, a := range ints() {
			for _, b := range ints() {
				if l.Link(a, b) || l.Unlink(a, b) || l.Watch(3, a, b) || l.Unwatch(3, a) {
					t.Errorf("%s: true of %d, %d", what, a, b)
				}
			}
			isOf(t, what, l, a)
			ends(t, what, l, a, nil)
		}
		if l.Unlink(1, 2) || l.Unwatch(9, 1) {
			t.Errorf("%s: something was taken back", what)
		}
		isWatched(t, what, l)
	}
}

// R5
func TestNone(t *testing.T) {
	isNone(t, "nil", nil)
	isNone(t, "Links that nobody made", &link.Links{})
	isNone(t, "others", new(link.Links))
	var inside struct{ links link.Links }
	isNone(t, "some inside of something", &inside.links)
}

// R5: what New answered are Links; their value in another place is none, and they are not touched by what is asked of that.
func TestValueElsewhere(t *testing.T) {
	for _, full := range []bool{false, true} {
		l := link.New()
		if full {
			links(t, l, [2]int{1, 2}, [2]int{0, 1})
			watches(t, l, monitor(9, 1, 2), monitor(3, 2, 1))
		}
		value := *l
		isNone(t, "a value", &value)
		m := link.New()
		*m = *l
		isNone(t, "a value in the place of others", m)
		if full {
			isOf(t, "the Links themselves", l, 1, 0, 2)
			isWatched(t, "the Links themselves", l, monitor(3, 2, 1), monitor(9, 1, 2))
		} else {
			isOf(t, "the Links themselves", l, 1)
			isWatched(t, "the Links themselves", l)
		}
		*l = link.Links{}
		isNone(t, "Links that were made nothing", l)
	}
}
