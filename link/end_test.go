package link_test

import (
	"testing"

	"pigeonhole/link"
)

// around is Links of many processes, with 1 in their midst.
func around(t *testing.T) *link.Links {
	t.Helper()
	l := link.New()
	links(t, l, [2]int{1, 4}, [2]int{-3, 1}, [2]int{1, 2}, [2]int{2, 4}, [2]int{5, 6})
	watches(t, l,
		monitor(30, 1, 2), monitor(-8, 1, 5), // 1 watches
		monitor(20, 2, 1), monitor(10, 5, 1), monitor(40, 5, 1), monitor(-9, 4, 1), // 1 is watched
		monitor(25, 1, 1),                                      // by itself
		monitor(15, 2, 5), monitor(35, 6, 6), monitor(0, 5, 2)) // of others
	return l
}

// P14.3: of one that is linked, watches, is watched, all together.
func TestEnd(t *testing.T) {
	l := around(t)
	ends(t, "all together", l, 1, []int{-3, 2, 4}, monitor(-9, 4, 1), monitor(10, 5, 1), monitor(20, 2, 1), monitor(25, 1, 1), monitor(40, 5, 1))
	isWatched(t, "behind the end", l, monitor(0, 5, 2), monitor(15, 2, 5), monitor(35, 6, 6))
	for a, want := range map[int][]int{1: nil, -3: nil, 2: {4}, 4: {2}, 5: {6}, 6: {5}} {
		isOf(t, "behind the end", l, a, want...)
	}
	for _, ref := range []int{30, -8, 20, 10, 40, -9, 25} {
		for _, who := range []int{1, 2, 4, 5} {
			if l.Unwatch(ref, who) {
				t.Errorf("the monitor %d of %d is there still", ref, who)
			}
		}
	}
	for _, b := range []int{-3, 2, 4} {
		if l.Unlink(1, b) || l.Unlink(b, 1) {
			t.Errorf("1 is linked with %d still", b)
		}
	}
}

// P14.3, P14.4: what is told is told once: of a process that has ended there is nothing to tell.
func TestEndTwice(t *testing.T) {
	l := around(t)
	l.End(1)
	for range 2 {
		ends(t, "twice", l, 1, nil)
	}
	ends(t, "one that 1 was linked with", l, -3, nil)
	ends(t, "another one", l, 2, []int{4}, monitor(0, 5, 2))
	ends(t, "the last of these", l, 4, nil)
	ends(t, "one that watched 1", l, 5, []int{6})
	ends(t, "one by itself", l, 6, nil, monitor(35, 6, 6))
	isWatched(t, "all have ended", l)
}

// P14.3: one that is linked alone.
func TestEndLinked(t *testing.T) {
	l := link.New()
	links(t, l, [2]int{1, 9}, [2]int{5, 1}, [2]int{1, -5}, [2]int{5, 9})
	ends(t, "linked", l, 1, []int{-5, 5, 9})
	isOf(t, "behind the end", l, 1)
	isOf(t, "behind the end", l, -5)
	isOf(t, "behind the end", l, 5, 9)
	isOf(t, "behind the end", l, 9, 5)
	isWatched(t, "behind the end", l)
}

// P14.3: one that watches alone: nobody is told of it.
func TestEndWatches(t *testing.T) {
	l := link.New()
	watches(t, l, monitor(3, 1, 2), monitor(1, 1, 4), monitor(2, 5, 2))
	ends(t, "who watches", l, 1, nil)
	isWatched(t, "behind the end", l, monitor(2, 5, 2))
	ends(t, "who was watched", l, 4, nil)
	ends(t, "who is watched still", l, 2, nil, monitor(2, 5, 2))
	isWatched(t, "behind the end", l)
}

// P14.3: one that is watched alone.
func TestEndWatched(t *testing.T) {
	l := link.New()
	watches(t, l, monitor(8, 2, 1), monitor(-1, 4, 1), monitor(3, 2, 1), monitor(5, 2, 4))
	ends(t, "who is watched", l, 1, nil, monitor(-1, 4, 1), monitor(3, 2, 1), monitor(8, 2, 1))
	isWatched(t, "behind the end", l, monitor(5, 2, 4))
	if l.Unwatch(3, 2) || l.Unwatch(8, 2) || l.Unwatch(-1, 4) {
		t.Error("what has told is there still")
	}
	isOf(t, "behind the end", l, 1)
}

// P14.3: one that is watched by itself alone is told to itself.
func TestEndOneself(t *testing.T) {
	l := link.New()
	watches(t, l, monitor(6, 1, 1), monitor(5, 1, 1), monitor(7, 2, 2))
	ends(t, "oneself", l, 1, nil, monitor(5, 1, 1), monitor(6, 1, 1))
	isWatched(t, "behind the end", l, monitor(7, 2, 2))
	ends(t, "oneself, twice", l, 1, nil)
}

// P14.3: of one that nothing names there is nothing to tell, and all others stay as they are.
func TestEndNobody(t *testing.T) {
	l := around(t)
	before := l.Monitors()
	for _, a := range []int{0, 3, 7, -1, 10, 20, 25, 30, 40, -8, -9} { // some of them are Refs
		ends(t, "nobody", l, a, nil)
	}
	isWatched(t, "behind the end of nobody", l, before...)
	isOf(t, "behind the end of nobody", l, 1, -3, 2, 4)
}

// P14.3: what was taken back ahead of the end is not told.
func TestEndTakenBack(t *testing.T) {
	l := around(t)
	if !l.Unlink(2, 1) || !l.Unlink(1, -3) || !l.Unwatch(10, 5) || !l.Unwatch(25, 1) || !l.Unwatch(30, 1) {
		t.Error("nothing to be taken back")
	}
	ends(t, "taken back", l, 1, []int{4}, monitor(-9, 4, 1), monitor(20, 2, 1), monitor(40, 5, 1))
}

// P14.3: at the ends of all ints, as processes and as Refs.
func TestEndAllInts(t *testing.T) {
	all := ints()
	for at, a := range all {
		l := link.New()
		var linked []int
		var watched, others []link.Monitor
		for i, b := range all {
			if i != at {
				linked = append(linked, b)
				l.Link(b, a)
			}
			if i%2 == 0 {
				watched = append(watched, monitor(b, b, a))
			} else if b != a {
				others = append(others, monitor(b, b, b))
			} else {
				watched = append(watched, monitor(b, b, b))
			}
		}
		watches(t, l, watched...)
		watches(t, l, others...)
		ends(t, "all ints", l, a, linked, watched...)
		isWatched(t, "all ints, behind the end", l, others...)
		for _, b := range all {
			isOf(t, "all ints, behind the end", l, b)
		}
	}
}

// P14.3: one that has ended may be linked, watched and end anew: it is as any other.
func TestEndAgain(t *testing.T) {
	l := around(t)
	l.End(1)
	links(t, l, [2]int{1, 2}, [2]int{7, 1})
	watches(t, l, monitor(20, 7, 1), monitor(10, 1, 7))
	isOf(t, "anew", l, 1, 2, 7)
	isOf(t, "anew", l, 2, 1, 4)
	ends(t, "anew", l, 1, []int{2, 7}, monitor(20, 7, 1))
	isWatched(t, "anew, behind the end", l, monitor(0, 5, 2), monitor(15, 2, 5), monitor(35, 6, 6))
}
