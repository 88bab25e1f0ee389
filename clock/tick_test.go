package clock_test

import (
	"math"
	"testing"

	"pigeonhole/clock"
)

// P16.2: whom a Tick tells: those whose time is not above now, each time to the last one just and the next one short.
func TestTick(t *testing.T) {
	for n, want := range map[int][]int{
		0: {-3, 4}, 1: {-3, 4}, 4: {-3, 4},
		5: {-3, 4, 2, 7}, 6: {-3, 4, 2, 7}, 9: {-3, 4, 2, 7},
		10: {-3, 4, 2, 7, 9}, 11: {-3, 4, 2, 7, 9}, 1000: {-3, 4, 2, 7, 9},
	} {
		c := some(t)
		waits := c.Waits()
		ticks(t, "some", c, n, want...)
		hasWaits(t, "some", c, waits[len(want):]...)
		setsNone(t, "who waits still", c, 0, waits[len(want):]...)
		for range 2 {
			ticks(t, "again", c, 0)
		}
		hasWaits(t, "again", c, waits[len(want):]...)
		sets(t, "who was told", c, 0, want...)
		drops(t, "who was told, and set again", c, true, want...)
		hasWaits(t, "who was told, and set again", c, waits[len(want):]...)
	}
}

// P16.2: the same of times that are far away, and of a now that is.
func TestTickFar(t *testing.T) {
	for _, now := range []int{0, 1, 1 << 20, 1 << 39} {
		for _, after := range []int{1, 2, 1 << 31, 1<<32 + 1, 1 << 38, 1 << 39} {
			c := at(t, now)
			sets(t, "far", c, after, 3)
			ticks(t, "none's", c, 0)
			ticks(t, "one short", c, after-1)
			ticks(t, "none's", c, 0)
			hasWaits(t, "one short", c, 3)
			ticks(t, "just", c, 1, 3)
			hasWaits(t, "just", c)
			ticks(t, "behind it", c, most-c.Now())
		}
	}
}

// P16.2: what a clock that nobody waits for does.
func TestTickNobody(t *testing.T) {
	c := clock.New()
	for _, n := range []int{0, 1, 0, most / 2, most/2 - 1, 0} {
		ticks(t, "nobody", c, n)
		hasWaits(t, "nobody", c)
	}
	ticksNone(t, "one more", c, 1)
}

// P16.2: n below 0: nothing is told, of those whose time has come, either.
func TestTickBack(t *testing.T) {
	for _, n := range []int{-1, -2, -10, -11, math.MinInt32, -most, -most - 1, -most - 10, math.MinInt + 10, math.MinInt + 1, math.MinInt} {
		c := some(t)
		ticksNone(t, "back", c, n)
		ticks(t, "behind it", c, 0, -3, 4)
		ticksNone(t, "back", c, n)
		ticks(t, "behind it", c, 5, 2, 7)
		ticksNone(t, "back", c, n)
		ticks(t, "behind it", c, 5, 9)
		ticksNone(t, "back, nobody waits", c, n)
	}
}

// P16.2: now goes to 2^40, and no further: what would be beyond it is refused, and changes nothing.
func TestTickBeyond(t *testing.T) {
	for _, now := range []int{0, 1, 2, 1 << 20, most / 2, most/2 + 1, most - 2, most - 1, most} {
		left := most - now
		beyond := []int{left + 1, left + 2, most + 1, most + 10, math.MaxInt - most, math.MaxInt - most + 1, math.MaxInt - now, math.MaxInt - 1, math.MaxInt}
		c := at(t, now)
		ticksNone(t, "nobody waits", c, beyond...)
		sets(t, "some", c, 0, 1)
		sets(t, "some", c, left, 3, 2)
		ticksNone(t, "some wait", c, beyond...)
		if now < most {
			hasWaits(t, "some wait", c, 1, 2, 3)
			ticks(t, "one short", c, left-1, 1)
			ticksNone(t, "one short", c, 2, 3, most-1, most, math.MaxInt)
			ticks(t, "just", c, 1, 2, 3)
		} else {
			ticks(t, "just", c, 0, 1, 2, 3)
		}
		isNow(t, "just", c, most)
		ticksNone(t, "at its end", c, 1, 2, most-1, most, math.MaxInt, -1, -most)
		ticks(t, "at its end", c, 0)
	}
	c := clock.New()
	sets(t, "all at once", c, most, 4)
	ticksNone(t, "all at once", c, most+1)
	ticks(t, "all at once", c, most, 4)
}

// P16.2, P16.3: a clock at its end: who is set for now is told by a Tick of 0; whose time is beyond it waits on.
func TestAtTheEnd(t *testing.T) {
	c := clock.New()
	sets(t, "ahead", c, most, 8)
	ticks(t, "ahead", c, most-3)
	sets(t, "near the end", c, 4, 1)
	sets(t, "near the end", c, 3, 6)
	sets(t, "near the end", c, most, 0)
	sets(t, "near the end", c, 2, 7)
	hasWaits(t, "near the end", c, 7, 6, 8, 1, 0)
	ticksNone(t, "near the end", c, 4, 5, most)
	ticks(t, "near the end", c, 2, 7)
	ticks(t, "to the end", c, 1, 6, 8)
	hasWaits(t, "at the end", c, 1, 0)
	for range 2 {
		sets(t, "at the end", c, most, 5)
		sets(t, "at the end", c, 1, 4, -4)
		sets(t, "at the end", c, 0, 3, 2)
		hasWaits(t, "at the end", c, 2, 3, -4, 1, 4, 0, 5)
		ticksNone(t, "at the end", c, 1, most, math.MaxInt, -1, math.MinInt)
		ticks(t, "at the end", c, 0, 2, 3)
		ticks(t, "at the end", c, 0)
		hasWaits(t, "at the end", c, -4, 1, 4, 0, 5)
		setsNone(t, "beyond the end", c, 0, -4, 1, 4, 0, 5)
		drops(t, "beyond the end", c, true, 5, -4, 4)
		hasWaits(t, "beyond the end", c, 1, 0)
	}
	drops(t, "beyond the end", c, true, 0, 1)
	hasWaits(t, "nobody", c)
	sets(t, "now", c, 0, 0, 1)
	ticks(t, "now", c, 0, 0, 1)
}

// P16.2: those of one time are told, and wait, by rising numbers, in whatever order they were set; others by rising times.
func TestOrder(t *testing.T) {
	type one struct{ pid, after int }
	for want, all := range map[[6]int][]one{
		{-9, -1, 0, 1, 3, 8}: {{-9, 5}, {-1, 5}, {0, 5}, {1, 5}, {3, 5}, {8, 5}},
		{8, 3, 1, 0, -1, -9}: {{-9, 6}, {-1, 5}, {0, 4}, {1, 3}, {3, 2}, {8, 1}},
		{-9, -1, 0, 1, 3, 7}: {{-9, 0}, {-1, 1}, {0, 2}, {1, 3}, {3, 4}, {7, 5}},
		{3, 8, -9, 1, -1, 0}: {{-9, 2}, {-1, 3}, {0, 3}, {1, 2}, {3, 1}, {8, 1}},
		{0, -9, -1, 1, 3, 8}: {{-9, 1}, {-1, 1}, {0, 0}, {1, 1}, {3, 1}, {8, 1}},
		{-1, 0, 1, 3, 8, -9}: {{-9, 9}, {-1, 1}, {0, 1}, {1, 1}, {3, 1}, {8, 1}},
	} {
		eachOrder([]int{0, 1, 2, 3, 4, 5}, func(order []int) {
			c, d := clock.New(), clock.New()
			for _, i := range order {
				sets(t, "any order", c, all[i].after, all[i].pid)
				sets(t, "any order", d, all[i].after, all[i].pid)
			}
			hasWaits(t, "any order", c, want[:]...)
			ticks(t, "any order", c, 9, want[:]...)
			hasWaits(t, "told", c)
			for i, pid := range order { // the same, with Ticks by which some of them have been told
				if i%2 == 0 {
					drops(t, "any order", d, true, all[pid].pid)
					sets(t, "any order", d, all[pid].after, all[pid].pid)
				}
			}
			hasWaits(t, "dropped, and set again", d, want[:]...)
			ticks(t, "dropped, and set again", d, 9, want[:]...)
		})
	}
}

// P16.2: those of one time that were set at unlike times stand by their numbers, too.
func TestOrderOfOneTime(t *testing.T) {
	pids := []int{5, 1, 4, -2, 3, 0}
	eachOrder(pids, func(order []int) {
		c := clock.New()
		for i, pid := range order {
			sets(t, "one after the other", c, 10-i, pid)
			ticks(t, "one after the other", c, 1)
		}
		hasWaits(t, "of one time", c, -2, 0, 1, 3, 4, 5)
		ticks(t, "of one time, one short", c, 10-len(order)-1)
		sets(t, "of one time", c, 1, 2)
		ticks(t, "of one time", c, 1, -2, 0, 1, 2, 3, 4, 5)
	})
}

// P16.2: Waits behind each call.
func TestWaits(t *testing.T) {
	c := clock.New()
	hasWaits(t, "New", c)
	sets(t, "Set", c, 5, 3)
	hasWaits(t, "Set", c, 3)
	sets(t, "Set, of one time, below", c, 5, 1)
	hasWaits(t, "Set, of one time, below", c, 1, 3)
	sets(t, "Set, of one time, above", c, 5, 8)
	hasWaits(t, "Set, of one time, above", c, 1, 3, 8)
	sets(t, "Set, of one time, between", c, 5, 2)
	hasWaits(t, "Set, of one time, between", c, 1, 2, 3, 8)
	sets(t, "Set, earlier", c, 4, 9)
	hasWaits(t, "Set, earlier", c, 9, 1, 2, 3, 8)
	sets(t, "Set, later", c, 6, 0)
	hasWaits(t, "Set, later", c, 9, 1, 2, 3, 8, 0)
	setsNone(t, "Set that is refused", c, 0, 3)
	setsNone(t, "Set that is refused", c, -1, 4)
	hasWaits(t, "Set that is refused", c, 9, 1, 2, 3, 8, 0)
	drops(t, "Drop", c, true, 2)
	hasWaits(t, "Drop", c, 9, 1, 3, 8, 0)
	drops(t, "Drop of one that does not wait", c, false, 2, 7)
	hasWaits(t, "Drop of one that does not wait", c, 9, 1, 3, 8, 0)
	ticks(t, "Tick that tells none", c, 3)
	hasWaits(t, "Tick that tells none", c, 9, 1, 3, 8, 0)
	c.Tick(-1)
	c.Tick(most)
	c.Now()
	hasWaits(t, "Ticks that are refused, Now", c, 9, 1, 3, 8, 0)
	sets(t, "Set behind a Tick", c, 2, 2)
	hasWaits(t, "Set behind a Tick", c, 9, 1, 2, 3, 8, 0)
	ticks(t, "Tick", c, 2, 9, 1, 2, 3, 8)
	hasWaits(t, "Tick", c, 0)
	sets(t, "Set of one that was told", c, 1, 8)
	hasWaits(t, "Set of one that was told", c, 0, 8)
	drops(t, "Drop", c, true, 0)
	hasWaits(t, "Drop", c, 8)
	ticks(t, "Tick of the last one", c, 1, 8)
	hasWaits(t, "Tick of the last one", c)
}
