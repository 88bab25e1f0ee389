package link_test

import (
	"math"
	"slices"
	"testing"

	"pigeonhole/link"
)

func monitor(ref, who, whom int) link.Monitor { return link.Monitor{Ref: ref, Who: who, Whom: whom} }

// ints are processes, and Refs, of all kinds: rising, from end to end.
func ints() []int {
	return []int{math.MinInt, math.MinInt + 1, math.MinInt32, -7, -1, 0, 1, 2, 41, math.MaxInt32, math.MaxInt - 1, math.MaxInt}
}

// isOf asks that those that a is linked with are these.
func isOf(t *testing.T, what string, l *link.Links, a int, want ...int) {
	t.Helper()
	if got := l.Of(a); !slices.Equal(got, want) {
		t.Errorf("%s: Of(%d): %v, not %v", what, a, got, want)
	}
}

// isWatched asks that all monitors are these.
func isWatched(t *testing.T, what string, l *link.Links, want ...link.Monitor) {
	t.Helper()
	if got := l.Monitors(); !slices.Equal(got, want) {
		t.Errorf("%s: Monitors: %v, not %v", what, got, want)
	}
}

// ends asks that End of a tells these.
func ends(t *testing.T, what string, l *link.Links, a int, linked []int, watched ...link.Monitor) {
	t.Helper()
	gotLinked, gotWatched := l.End(a)
	if !slices.Equal(gotLinked, linked) {
		t.Errorf("%s: End(%d): linked: %v, not %v", what, a, gotLinked, linked)
	}
	if !slices.Equal(gotWatched, watched) {
		t.Errorf("%s: End(%d): watched: %v, not %v", what, a, gotWatched, watched)
	}
}

// links links each two.
func links(t *testing.T, l *link.Links, pairs ...[2]int) {
	t.Helper()
	for _, p := range pairs {
		if !l.Link(p[0], p[1]) {
			t.Fatalf("Link(%d, %d): false", p[0], p[1])
		}
	}
}

// watches has there be each monitor.
func watches(t *testing.T, l *link.Links, monitors ...link.Monitor) {
	t.Helper()
	for _, m := range monitors {
		if !l.Watch(m.Ref, m.Who, m.Whom) {
			t.Fatalf("Watch of %v: false", m)
		}
	}
}
