package link_test

import (
	"math"
	"slices"
	"testing"

	"pigeonhole/link"
)

// The chapter's example. P14.1, P14.2, P14.3
func TestExample(t *testing.T) {
	l := link.New()
	if !l.Link(1, 2) || !l.Link(1, 3) {
		t.Error("Link: false")
	}
	if l.Link(2, 1) {
		t.Error("Link(2, 1): true")
	}
	isOf(t, "two links", l, 1, 2, 3)
	if !l.Watch(9, 2, 1) || !l.Watch(5, 3, 1) || !l.Watch(7, 1, 2) {
		t.Error("Watch: false")
	}
	if l.Watch(9, 3, 3) {
		t.Error("Watch(9, 3, 3): true")
	}
	ends(t, "the first one", l, 1, []int{2, 3}, monitor(5, 3, 1), monitor(9, 2, 1))
	isWatched(t, "behind the end", l)
	isOf(t, "behind the end", l, 2)
}

// P14.1
func TestNew(t *testing.T) {
	l, m := link.New(), link.New()
	if l == nil || m == nil || l == m {
		t.Fatal("no Links of their own")
	}
	for _, a := range ints() {
		isOf(t, "new", l, a)
		for _, b := range ints() {
			if l.Unlink(a, b) || l.Unwatch(a, b) {
				t.Errorf("new: there was something of %d and %d", a, b)
			}
		}
		ends(t, "new", l, a, nil)
	}
	isWatched(t, "new", l)
	links(t, l, [2]int{1, 2})
	watches(t, l, monitor(3, 1, 2))
	isOf(t, "other Links", m, 1)
	isWatched(t, "other Links", m)
}

// P14.1: a link is there once, whoever asks for it; it goes both ways.
func TestLinkTwice(t *testing.T) {
	for _, first := range [][2]int{{1, 2}, {2, 1}, {-5, 0}, {math.MaxInt, math.MinInt}} {
		a, b := first[0], first[1]
		l := link.New()
		if !l.Link(a, b) {
			t.Errorf("Link(%d, %d): false", a, b)
		}
		for range 2 {
			if l.Link(a, b) || l.Link(b, a) {
				t.Errorf("%d and %d are linked twice", a, b)
			}
		}
		isOf(t, "linked", l, a, b)
		isOf(t, "linked", l, b, a)
	}
}

// P14.1: nobody is linked with oneself.
func TestLinkOneself(t *testing.T) {
	l := link.New()
	for range 2 {
		for _, a := range ints() {
			if l.Link(a, a) || l.Unlink(a, a) {
				t.Errorf("%d is linked with itself", a)
			}
		}
		for _, a := range ints() {
			if slices.Contains(l.Of(a), a) {
				t.Errorf("Of(%d) has it", a)
			}
		}
		for _, a := range ints() { // of those that are linked with others it is the same
			l.Link(a, 1000)
		}
	}
}

// P14.1: either side takes a link back, once; it can be made again, by either side.
func TestUnlink(t *testing.T) {
	l := link.New()
	links(t, l, [2]int{1, 3}, [2]int{2, 3})
	for _, made := range [][2]int{{1, 2}, {2, 1}} {
		for _, back := range [][2]int{{1, 2}, {2, 1}} {
			links(t, l, made)
			isOf(t, "linked", l, 1, 2, 3)
			isOf(t, "linked", l, 2, 1, 3)
			if !l.Unlink(back[0], back[1]) {
				t.Errorf("Link%v, Unlink%v: false", made, back)
			}
			if l.Unlink(1, 2) || l.Unlink(2, 1) {
				t.Errorf("Link%v, Unlink%v: linked still", made, back)
			}
			isOf(t, "taken back", l, 1, 3)
			isOf(t, "taken back", l, 2, 3)
			isOf(t, "taken back", l, 3, 1, 2)
		}
	}
}

// P14.1: of those that are not linked nothing is taken back, whoever else they are linked with.
func TestUnlinkNone(t *testing.T) {
	l := link.New()
	links(t, l, [2]int{1, 2}, [2]int{2, 3}, [2]int{4, 5})
	for _, p := range [][2]int{{1, 3}, {3, 1}, {1, 4}, {5, 2}, {1, 9}, {9, 1}, {8, 9}, {0, 0}, {2, 2}, {-1, -2}} {
		if l.Unlink(p[0], p[1]) {
			t.Errorf("Unlink%v: true", p)
		}
	}
	isOf(t, "none taken back", l, 1, 2)
	isOf(t, "none taken back", l, 2, 1, 3)
	isOf(t, "none taken back", l, 3, 2)
	isOf(t, "none taken back", l, 4, 5)
	isOf(t, "none taken back", l, 9)
}

// P14.1: links do not go on from one to the next.
func TestLinksAreOfTwo(t *testing.T) {
	l := link.New()
	links(t, l, [2]int{1, 2}, [2]int{2, 3})
	isOf(t, "a row", l, 1, 2)
	isOf(t, "a row", l, 3, 2)
	if !l.Link(3, 1) {
		t.Error("Link(3, 1): false")
	}
	isOf(t, "a ring", l, 1, 2, 3)
}

// P14.1: Of is rising, from the one end of all ints to the other, in whatever order links were made.
func TestOfRising(t *testing.T) {
	all := ints()
	for shift := range all {
		for _, a := range all {
			l := link.New()
			var want []int
			for i := range all {
				b := all[(i*5+shift)%len(all)] // 5 has no part in common with how many there are
				if b == a {
					continue
				}
				want = append(want, b)
				if (i+shift)%2 == 0 {
					links(t, l, [2]int{a, b})
				} else {
					links(t, l, [2]int{b, a})
				}
			}
			slices.Sort(want)
			isOf(t, "all ints", l, a, want...)
			for _, b := range want {
				isOf(t, "the other side", l, b, a)
			}
		}
	}
}

// P14.1: the same of many.
func TestOfMany(t *testing.T) {
	const n = 5000
	l := link.New()
	var want []int
	for i := range n {
		b := (i*7919)%n - n/2 // a prime number: each of them once
		links(t, l, [2]int{9999, b})
		want = append(want, b)
	}
	slices.Sort(want)
	isOf(t, "many", l, 9999, want...)
	for i, b := range want {
		if i%3 != 0 && !l.Unlink(b, 9999) {
			t.Fatalf("Unlink(%d): false", b)
		}
	}
	var left []int
	for i, b := range want {
		if i%3 == 0 {
			left = append(left, b)
		}
	}
	isOf(t, "a third of many", l, 9999, left...)
}

// P14.1: processes that have no links, or none any more.
func TestOfNone(t *testing.T) {
	l := link.New()
	links(t, l, [2]int{1, -1}, [2]int{math.MinInt, 3})
	l.Unlink(math.MinInt, 3)
	watches(t, l, monitor(2, 5, 6))
	for _, a := range []int{0, 2, 3, 5, 6, -2, math.MinInt, math.MaxInt} {
		isOf(t, "no links", l, a)
	}
}
