package link_test

import (
	"math"
	"slices"
	"testing"

	"pigeonhole/link"
)

// P14.2: no two monitors have one Ref, whoever asks for it; the first one stays as it is.
func TestWatchTwice(t *testing.T) {
	for _, ref := range ints() {
		l := link.New()
		watches(t, l, monitor(ref, 1, 2))
		for _, p := range [][2]int{{1, 2}, {2, 1}, {1, 1}, {3, 4}, {ref, ref}} {
			if l.Watch(ref, p[0], p[1]) {
				t.Errorf("Watch of Ref %d by %v: true", ref, p)
			}
		}
		isWatched(t, "one Ref", l, monitor(ref, 1, 2))
		ends(t, "nobody that watches", l, 4, nil)
		ends(t, "nobody that watches", l, 3, nil)
		isWatched(t, "one Ref", l, monitor(ref, 1, 2))
		ends(t, "who is watched", l, 2, nil, monitor(ref, 1, 2))
	}
}

// P14.2: of one Who and one Whom there may be any number, of unlike Refs.
func TestWatchOften(t *testing.T) {
	l := link.New()
	watches(t, l, monitor(3, 1, 2), monitor(1, 1, 2), monitor(2, 2, 1))
	isWatched(t, "often", l, monitor(1, 1, 2), monitor(2, 2, 1), monitor(3, 1, 2))
	if !l.Unwatch(1, 1) {
		t.Error("Unwatch(1, 1): false")
	}
	isWatched(t, "one is taken back", l, monitor(2, 2, 1), monitor(3, 1, 2))
	ends(t, "who is watched", l, 2, nil, monitor(3, 1, 2))
}

// P14.2: who may be whom.
func TestWatchOneself(t *testing.T) {
	l := link.New()
	watches(t, l, monitor(4, 7, 7), monitor(2, 7, 7))
	isWatched(t, "oneself", l, monitor(2, 7, 7), monitor(4, 7, 7))
	if l.Unwatch(4, 4) || !l.Unwatch(4, 7) || l.Unwatch(4, 7) {
		t.Error("Unwatch of oneself")
	}
	isWatched(t, "oneself, one taken back", l, monitor(2, 7, 7))
	ends(t, "oneself", l, 7, nil, monitor(2, 7, 7))
	isWatched(t, "behind the end", l)
	watches(t, l, monitor(2, 7, 7))
}

// P14.2: a monitor is taken back by its Ref and its Who together; else nothing is.
func TestUnwatch(t *testing.T) {
	l := link.New()
	all := []link.Monitor{monitor(5, 1, 2), monitor(6, 2, 1), monitor(7, 3, 3)}
	watches(t, l, all...)
	for _, x := range [][2]int{{5, 2}, {5, 3}, {5, 5}, {6, 1}, {6, 6}, {7, 1}, {1, 5}, {2, 1}, {8, 1}, {0, 0}, {-5, 1}, {math.MinInt, 1}, {math.MaxInt, 2}} {
		if l.Unwatch(x[0], x[1]) {
			t.Errorf("Unwatch%v: true", x)
		}
		isWatched(t, "none taken back", l, all...)
	}
	for i, m := range all {
		if !l.Unwatch(m.Ref, m.Who) {
			t.Errorf("Unwatch of %v: false", m)
		}
		if l.Unwatch(m.Ref, m.Who) {
			t.Errorf("Unwatch of %v: true, twice", m)
		}
		isWatched(t, "taken back", l, all[i+1:]...)
	}
}

// P14.2: a Ref that is none's any more may be another one's.
func TestWatchAgain(t *testing.T) {
	l := link.New()
	for i := range 5 {
		watches(t, l, monitor(9, i, i+1))
		isWatched(t, "again", l, monitor(9, i, i+1))
		if l.Unwatch(9, i-1) || !l.Unwatch(9, i) {
			t.Errorf("Unwatch, round %d", i)
		}
		ends(t, "taken back", l, i+1, nil)
	}
	watches(t, l, monitor(9, 1, 2))
	l.End(1)
	watches(t, l, monitor(9, 3, 2))
	l.End(1)
	isWatched(t, "behind the end of an earlier Who", l, monitor(9, 3, 2))
	ends(t, "of that Ref one is told", l, 2, nil, monitor(9, 3, 2))
	watches(t, l, monitor(9, 4, 5))
	l.End(3)
	ends(t, "an earlier Whom", l, 2, nil)
	isWatched(t, "behind the end of an earlier Whom", l, monitor(9, 4, 5))
}

// P14.2: Monitors is by rising Refs, from the one end of all ints to the other, in whatever order they were made.
func TestMonitorsRising(t *testing.T) {
	all := ints()
	for shift := range all {
		l := link.New()
		var want []link.Monitor
		for i := range all {
			ref := all[(i*7+shift)%len(all)] // 7 has no part in common with how many there are
			m := monitor(ref, all[i], all[len(all)-1-i])
			watches(t, l, m)
			want = append(want, m)
		}
		slices.SortFunc(want, byRef)
		isWatched(t, "all ints", l, want...)
		for _, m := range want {
			if !l.Unwatch(m.Ref, m.Who) {
				t.Errorf("Unwatch of %v: false", m)
			}
		}
		isWatched(t, "all taken back", l)
	}
}

// byRef is the order of monitors.
func byRef(m, n link.Monitor) int {
	switch {
	case m.Ref < n.Ref:
		return -1
	case m.Ref > n.Ref:
		return 1
	default:
		return 0
	}
}

// P14.1, P14.2: links are no monitors, monitors no links: neither is taken back with the other.
func TestLinksAndMonitorsApart(t *testing.T) {
	l := link.New()
	links(t, l, [2]int{1, 2})
	isWatched(t, "linked alone", l)
	watches(t, l, monitor(1, 1, 2), monitor(2, 2, 3))
	isOf(t, "watched", l, 2, 1)
	isOf(t, "watched alone", l, 3)
	if l.Unwatch(3, 1) || !l.Unwatch(1, 1) {
		t.Error("Unwatch")
	}
	isOf(t, "not watched any more", l, 1, 2)
	watches(t, l, monitor(1, 1, 2))
	if l.Unlink(2, 3) || !l.Unlink(1, 2) {
		t.Error("Unlink")
	}
	isWatched(t, "not linked any more", l, monitor(1, 1, 2), monitor(2, 2, 3))
}
