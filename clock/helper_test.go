package clock_test

import (
	"math"
	"slices"
	"testing"

	"pigeonhole/clock"
)

// most is how far now goes, and for how long a process may wait.
const most = 1 << 40

// ints are processes of all kinds: rising, from end to end.
func ints() []int {
	return []int{math.MinInt, math.MinInt + 1, math.MinInt32, -7, -1, 0, 1, 2, 41, most, math.MaxInt - 1, math.MaxInt}
}

// wrongTimes are those for which nobody waits, and by which no clock goes on.
func wrongTimes() []int {
	return []int{-1, -2, math.MinInt32, -most, -most - 1, math.MinInt + 1, math.MinInt, most + 1, most + 2, 2 * most, math.MaxInt - most, math.MaxInt - 1, math.MaxInt}
}

// sets has each of them wait for after.
func sets(t *testing.T, what string, c *clock.Clock, after int, pids ...int) {
	t.Helper()
	for _, pid := range pids {
		if !c.Set(pid, after) {
			t.Errorf("%s: Set(%d, %d): false", what, pid, after)
		}
	}
}

// setsNone asks that none of them can be set for after.
func setsNone(t *testing.T, what string, c *clock.Clock, after int, pids ...int) {
	t.Helper()
	for _, pid := range pids {
		if c.Set(pid, after) {
			t.Errorf("%s: Set(%d, %d): true", what, pid, after)
		}
	}
}

// drops asks whether each of them waited, and has it wait no more.
func drops(t *testing.T, what string, c *clock.Clock, want bool, pids ...int) {
	t.Helper()
	for _, pid := range pids {
		if c.Drop(pid) != want {
			t.Errorf("%s: Drop(%d): %v", what, pid, !want)
		}
	}
}

// ticks asks that Tick of n tells these, and that now is n more.
func ticks(t *testing.T, what string, c *clock.Clock, n int, want ...int) {
	t.Helper()
	before := c.Now()
	if got, ok := c.Tick(n); !ok || !slices.Equal(got, want) {
		t.Errorf("%s: Tick(%d): %v, %v, not %v", what, n, got, ok, want)
	}
	isNow(t, what, c, before+n)
}

// ticksNone asks that Tick refuses each n, and changes nothing.
func ticksNone(t *testing.T, what string, c *clock.Clock, all ...int) {
	t.Helper()
	now, waits := c.Now(), c.Waits()
	for _, n := range all {
		if got, ok := c.Tick(n); ok || got != nil {
			t.Errorf("%s: Tick(%d): %v, %v, though the clock does not go there", what, n, got, ok)
		}
		isNow(t, what, c, now)
		hasWaits(t, what, c, waits...)
	}
}

// hasWaits asks that these wait, in that order.
func hasWaits(t *testing.T, what string, c *clock.Clock, want ...int) {
	t.Helper()
	if got := c.Waits(); !slices.Equal(got, want) {
		t.Errorf("%s: Waits: %v, not %v", what, got, want)
	}
}

// isNow asks that now is that.
func isNow(t *testing.T, what string, c *clock.Clock, want int) {
	t.Helper()
	if got := c.Now(); got != want {
		t.Errorf("%s: now is %d, not %d", what, got, want)
	}
}

// at is a clock whose now is that.
func at(t *testing.T, now int) *clock.Clock {
	t.Helper()
	c := clock.New()
	ticks(t, "a clock", c, now)
	return c
}

// some is a clock at 10, for which some wait: -3 and 4 for 10, 7 and 2 for 15, 9 for 20.
func some(t *testing.T) *clock.Clock {
	t.Helper()
	c := at(t, 10)
	sets(t, "some", c, 10, 9)
	sets(t, "some", c, 5, 2, 7)
	sets(t, "some", c, 0, 4, -3)
	hasWaits(t, "some", c, -3, 4, 2, 7, 9)
	return c
}

// eachOrder calls f with each order of the row.
func eachOrder(row []int, f func(row []int)) {
	var goOn func(done int)
	goOn = func(done int) {
		if done == len(row) {
			f(slices.Clone(row))
		}
		for i := done; i < len(row); i++ {
			row[done], row[i] = row[i], row[done]
			goOn(done + 1)
			row[done], row[i] = row[i], row[done]
		}
	}
	goOn(0)
}
