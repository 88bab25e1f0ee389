package clock_test

import (
	"testing"

	"pigeonhole/clock"
)

// isNone asks that c is no clock: each of its calls does nothing, and answers zero values.
func isNone(t *testing.T, what string, c *clock.Clock) {
	t.Helper()
	for range 2 {
		for _, pid := range ints() {
			for _, n := range append(wrongTimes(), 0, 1, 5, most) {
				setsNone(t, what, c, n, pid)
				ticksNone(t, what, c, n)
			}
			drops(t, what, c, false, pid)
		}
		isNow(t, what, c, 0)
		if got := c.Waits(); got != nil {
			t.Errorf("%s: Waits: %v", what, got)
		}
	}
}

// R5
func TestNone(t *testing.T) {
	isNone(t, "nil", nil)
	isNone(t, "a clock that nobody made", &clock.Clock{})
	isNone(t, "another one", new(clock.Clock))
	var inside struct{ clock clock.Clock }
	isNone(t, "one inside of something", &inside.clock)
}

// R5: what New answered is a clock; its value in another place is none, and it is not touched by what is asked of that.
func TestValueElsewhere(t *testing.T) {
	for _, full := range []bool{false, true} {
		c := clock.New()
		if full {
			c = some(t)
			sets(t, "full", c, 4, 41, 1)
		}
		now, want := c.Now(), c.Waits()
		value := *c
		isNone(t, "a value", &value)
		d := clock.New()
		*d = *c
		isNone(t, "a value in the place of another one", d)
		isNow(t, "the clock itself", c, now)
		hasWaits(t, "the clock itself", c, want...)
		ticks(t, "the clock itself", c, 10, want...)
		*c = clock.Clock{}
		isNone(t, "a clock that was made nothing", c)
	}
}
