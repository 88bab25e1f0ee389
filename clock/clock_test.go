package clock_test

import (
	"math"
	"slices"
	"testing"

	"pigeonhole/clock"
)

// The chapter's example. P16.1, P16.2, P16.3
func TestExample(t *testing.T) {
	c := clock.New()
	sets(t, "Set", c, 5, 3, 1)
	sets(t, "Set", c, 0, 2)
	setsNone(t, "one that waits", c, 1, 3)
	hasWaits(t, "Set", c, 2, 1, 3)
	ticks(t, "who was set for now", c, 0, 2)
	ticks(t, "one short", c, 4)
	ticks(t, "just", c, 1, 1, 3)
	isNow(t, "just", c, 5)
	ticksNone(t, "back", c, -1)
}

// P16.1
func TestNew(t *testing.T) {
	c, d := clock.New(), clock.New()
	if c == nil || d == nil || c == d {
		t.Fatal("no clocks of their own")
	}
	isNow(t, "new", c, 0)
	hasWaits(t, "new", c)
	drops(t, "new", c, false, ints()...)
	ticks(t, "new", c, 0)
	sets(t, "new", c, 3, 7, 0)
	ticks(t, "new", c, 2)
	isNow(t, "another one", d, 0)
	hasWaits(t, "another one", d)
	drops(t, "another one", d, false, 7, 0)
	sets(t, "another one", d, 0, 7)
	ticks(t, "another one", d, 9, 7)
	hasWaits(t, "the first one", c, 0, 7)
	isNow(t, "the first one", c, 2)
}

// P16.1: for 0 to 2^40, and for nothing else, of whatever process, whatever now is.
func TestSetAfter(t *testing.T) {
	for _, now := range []int{0, 1, 1000, most - 1, most} {
		for _, pid := range ints() {
			c := at(t, now)
			for _, after := range wrongTimes() {
				setsNone(t, "wrong", c, after, pid)
				hasWaits(t, "wrong", c)
				drops(t, "wrong", c, false, pid)
			}
			for _, after := range []int{0, 1, 2, 1 << 32, most - 1, most} {
				sets(t, "right", c, after, pid)
				hasWaits(t, "right", c, pid)
				isNow(t, "right", c, now)
				drops(t, "right", c, true, pid)
			}
		}
	}
}

// P16.1: a process that waits is set no second time, for whatever, and waits for what it was set for.
func TestSetTwice(t *testing.T) {
	for _, pid := range ints() {
		for _, again := range append(wrongTimes(), 0, 1, 4, 5, 6, most) {
			c := clock.New()
			sets(t, "once", c, 5, pid)
			for range 2 {
				setsNone(t, "twice", c, again, pid)
				hasWaits(t, "twice", c, pid)
			}
			ticks(t, "one short", c, 4)
			setsNone(t, "twice, one short", c, again, pid)
			ticks(t, "just", c, 1, pid)
			ticks(t, "behind it", c, most-5)
			hasWaits(t, "behind it", c)
		}
	}
}

// P16.1: a process that is refused, since it waits, stays in its place among others.
func TestSetTwiceAmongOthers(t *testing.T) {
	for _, pid := range []int{-3, 4, 2, 7, 9} {
		for _, after := range []int{0, 4, 5, 6, 10, most} {
			c := some(t)
			setsNone(t, "twice", c, after, pid)
			hasWaits(t, "twice", c, -3, 4, 2, 7, 9)
			ticks(t, "twice", c, 0, -3, 4)
			ticks(t, "twice", c, 5, 2, 7)
			ticks(t, "twice", c, 5, 9)
		}
	}
}

// P16.1: who was told, or dropped, may be set again, for a time of its own, reckoned from now.
func TestSetAgain(t *testing.T) {
	for _, pid := range ints() {
		for _, first := range []int{0, 1, 5} {
			for _, second := range []int{0, 1, 5, 7} {
				c := clock.New()
				sets(t, "first", c, first, pid)
				ticks(t, "told", c, first+2, pid)
				hasWaits(t, "told", c)
				sets(t, "behind its Tick", c, second, pid)
				setsNone(t, "behind its Tick, twice", c, second, pid)
				if second > 0 {
					ticks(t, "behind its Tick, one short", c, second-1)
				}
				ticks(t, "behind its Tick", c, min(second, 1), pid)

				sets(t, "first", c, first, pid)
				drops(t, "first", c, true, pid)
				sets(t, "behind Drop", c, second, pid)
				setsNone(t, "behind Drop, twice", c, second, pid)
				if second > 0 {
					ticks(t, "behind Drop, one short", c, second-1)
				}
				ticks(t, "behind Drop", c, min(second, 1), pid)
				ticks(t, "all are told", c, most-c.Now())
			}
		}
	}
}

// P16.1: now is what the Ticks come to; no other call goes on with it.
func TestNow(t *testing.T) {
	c := clock.New()
	now := 0
	for _, n := range []int{0, 1, 0, 2, 5, 1 << 20, 1 << 33, 7, 1 << 39} {
		ticks(t, "rising", c, n)
		now += n
		for range 2 {
			isNow(t, "rising", c, now)
		}
		c.Set(3, most)
		c.Set(3, 1)
		c.Set(4, -1)
		isNow(t, "Set", c, now)
		c.Waits()
		c.Tick(-1)
		c.Drop(3)
		c.Drop(3)
		isNow(t, "Waits, a Tick that is refused, Drop", c, now)
	}
}

// P16.1: Drop of one that waits, of one that does not, and again.
func TestDrop(t *testing.T) {
	for _, pid := range ints() {
		for _, after := range []int{0, 1, 5, most} {
			c := clock.New()
			drops(t, "one that was never set", c, false, pid, pid)
			sets(t, "one", c, after, pid)
			drops(t, "others", c, false, pid^1, pid^2, ^pid)
			hasWaits(t, "others", c, pid)
			drops(t, "one", c, true, pid)
			hasWaits(t, "dropped", c)
			drops(t, "again", c, false, pid, pid)
			ticks(t, "dropped", c, most)
			drops(t, "behind its time", c, false, pid)
		}
	}
}

// P16.1: each one out of a row of some, and each two; those that are left wait as before.
func TestDropAmongOthers(t *testing.T) {
	all := []int{-3, 4, 2, 7, 9}
	for i, one := range all {
		for j, two := range all {
			left := func(row ...int) []int {
				return slices.DeleteFunc(row, func(pid int) bool { return pid == one || pid == two })
			}
			c := some(t)
			drops(t, "the first one", c, true, one)
			drops(t, "the second one", c, i != j, two)
			hasWaits(t, "dropped", c, left(-3, 4, 2, 7, 9)...)
			ticks(t, "dropped", c, 0, left(-3, 4)...)
			ticks(t, "dropped", c, 4)
			ticks(t, "dropped", c, 1, left(2, 7)...)
			ticks(t, "dropped", c, 4)
			ticks(t, "dropped", c, 1, left(9)...)
			hasWaits(t, "all are told", c)
		}
	}
}

// P16.1: who was told does not wait any more, and who is told can drop others.
func TestDropTold(t *testing.T) {
	c := some(t)
	ticks(t, "some", c, 5, -3, 4, 2, 7)
	drops(t, "told", c, false, -3, 4, 2, 7, -3)
	hasWaits(t, "told", c, 9)
	drops(t, "the one that is left", c, true, 9)
	drops(t, "the one that is left", c, false, 9)
	hasWaits(t, "none", c)
	ticks(t, "none", c, 5)
}

// P16.1: processes of all numbers wait side by side, each for its own time.
func TestAllInts(t *testing.T) {
	all := ints()
	if !slices.IsSorted(all) {
		t.Fatal("the processes here do not rise")
	}
	for shift := range all {
		c := clock.New()
		for i := range all {
			sets(t, "of one time", c, 8, all[(i*5+shift)%len(all)]) // 5 has no part in common with how many there are
		}
		hasWaits(t, "of one time", c, all...)
		setsNone(t, "of one time, twice", c, 8, all...)
		ticks(t, "of one time, one short", c, 7)
		ticks(t, "of one time", c, 1, all...)

		for i, pid := range all {
			sets(t, "falling times", c, 100-i, pid)
		}
		ticks(t, "falling times, one short", c, 100-len(all))
		left := slices.Clone(all)
		slices.Reverse(left)
		for i, pid := range left {
			hasWaits(t, "falling times", c, left[i:]...)
			ticks(t, "falling times", c, 1, pid)
		}
	}
	c := clock.New()
	sets(t, "the ends", c, math.MaxInt32, math.MaxInt, 0, math.MinInt)
	hasWaits(t, "the ends", c, math.MinInt, 0, math.MaxInt)
}
