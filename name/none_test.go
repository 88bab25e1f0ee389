package name_test

import (
	"testing"

	"pigeonhole/name"
)

// isNone asks that n are no Names: each of their calls does nothing, and answers zero values.
func isNone(t *testing.T, what string, n *name.Names) {
	t.Helper()
	for range 2 {
		for _, text := range texts() {
			for _, pid := range ints() {
				if n.Put(text, pid) {
					t.Errorf("%s: Put(%q, %d): true", what, text, pid)
				}
				ends(t, what, n, pid)
			}
			isNobodys(t, what, n, text)
			takes(t, what, n, text, false)
		}
		hasAll(t, what, n)
	}
}

// R5
func TestNone(t *testing.T) {
	isNone(t, "nil", nil)
	isNone(t, "Names that nobody made", &name.Names{})
	isNone(t, "others", new(name.Names))
	var inside struct{ names name.Names }
	isNone(t, "some inside of something", &inside.names)
}

// R5: what New answered are Names; their value in another place is none, and they are not touched by what is asked of that.
func TestValueElsewhere(t *testing.T) {
	for _, full := range []bool{false, true} {
		n := name.New()
		if full {
			n = some(t)
		}
		want := n.All()
		value := *n
		isNone(t, "a value", &value)
		m := name.New()
		*m = *n
		isNone(t, "a value in the place of others", m)
		hasAll(t, "the Names themselves", n, want...)
		for _, x := range want {
			isHis(t, "the Names themselves", n, x.Name, x.Pid)
		}
		*n = name.Names{}
		isNone(t, "Names that were made nothing", n)
	}
}
