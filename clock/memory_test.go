package clock_test

import (
	"math/rand"
	"runtime"
	"slices"
	"testing"

	"pigeonhole/api"
	"pigeonhole/clock"
)

// spoil changes a row, and what is behind its end.
func spoil(row []int, by int) {
	row = row[:cap(row)]
	for i := range row {
		row[i] = by
	}
}

// R3: what is told may be changed by who asked; asked again, it is as it was.
func TestToldIsNew(t *testing.T) {
	c := some(t)
	for range 3 {
		spoil(c.Waits(), 77)
		hasWaits(t, "told again", c, -3, 4, 2, 7, 9)
	}
	drops(t, "one that is in a changed row alone", c, false, 77)
	for _, told := range []struct {
		n          int
		want, left []int
	}{
		{0, []int{-3, 4}, []int{2, 7, 9}},
		{1, nil, []int{2, 7, 9}},
		{5, []int{2, 7}, []int{9}},
		{0, nil, []int{9}},
		{9, []int{9}, nil},
		{0, nil, nil},
	} {
		got, ok := c.Tick(told.n)
		if !ok || !slices.Equal(got, told.want) {
			t.Errorf("Tick(%d): %v, %v, not %v", told.n, got, ok, told.want)
		}
		spoil(append(got, 50, 51, 52, 53, 54), 66)
		spoil(got, 77)
		hasWaits(t, "told again", c, told.left...)
		drops(t, "one that is in a changed row alone", c, false, 77, 66, 50)
		setsNone(t, "who waits still", c, 0, told.left...)
	}
}

// R3: what was told stays as it is, whatever is done behind it.
func TestToldStays(t *testing.T) {
	c := some(t)
	type answer struct{ is, was []int }
	var all []answer
	keep := func(row []int) { all = append(all, answer{row, slices.Clone(row)}) }
	r := rand.New(rand.NewSource(16))
	for i := range 2000 {
		c.Set(r.Intn(40), r.Intn(20))
		c.Set(-i, r.Intn(20))
		c.Drop(r.Intn(40))
		keep(c.Waits())
		told, _ := c.Tick(r.Intn(3))
		keep(told)
	}
	for i, x := range all {
		if !slices.Equal(x.is, x.was) {
			t.Fatalf("the answer %d became %v, out of %v", i, x.is, x.was)
		}
	}
}

// R3: no two answers have memory in common: each of them is changed, those ahead of it stay as they were made.
func TestToldApart(t *testing.T) {
	c := clock.New()
	var all [][]int
	for i := range 300 {
		sets(t, "some", c, i%7, 3*i, 3*i+1, 3*i+2)
		told, _ := c.Tick(i % 3)
		all = append(all, told, c.Waits())
	}
	for i, row := range all {
		spoil(row, -i-1)
	}
	for i, row := range all {
		for _, x := range row[:cap(row)] {
			if x != -i-1 {
				t.Fatalf("in the answer %d stands %d", i, x)
			}
		}
	}
	for _, pid := range c.Waits() {
		if pid < 0 {
			t.Fatalf("%d waits", pid)
		}
	}
}

// R4: one thing is told alike each time, and of clocks that were set in another order.
func TestToldAlike(t *testing.T) {
	const count = 1000
	fill := func(place func(i int) int) *clock.Clock {
		c := clock.New()
		for i := range count {
			pid := place(i)
			sets(t, "some", c, pid%10, pid)
		}
		return c
	}
	want := fill(func(i int) int { return i }).Waits()
	for what, place := range map[string]func(i int) int{
		"rising":  func(i int) int { return i },
		"falling": func(i int) int { return count - 1 - i },
		"neither": func(i int) int { return i * 7 % count }, // 7 has no part in common with count
	} {
		for range 5 {
			c := fill(place)
			for range 3 {
				hasWaits(t, what, c, want...)
			}
			ticks(t, what, c, 4, want[:count/2]...)
			hasWaits(t, what, c, want[count/2:]...)
		}
	}
}

// held is how many bytes are held more than before, behind f.
func held(f func()) int {
	var before, behind runtime.MemStats
	runtime.GC()
	runtime.ReadMemStats(&before)
	f()
	runtime.GC()
	runtime.ReadMemStats(&behind)
	return int(behind.HeapAlloc) - int(before.HeapAlloc)
}

// Of what is gone, or was refused, nothing is kept, however many processes there have been.
func TestGoneIsNotKept(t *testing.T) {
	const count, bound = 300_000, 1 << 20
	ways := map[string]func(c *clock.Clock, pid int){
		"told":    func(c *clock.Clock, pid int) { c.Tick(1) },
		"dropped": func(c *clock.Clock, pid int) { c.Drop(pid) },
		"by both": func(c *clock.Clock, pid int) {
			if c.Tick(pid % 2); pid%3 == 0 {
				c.Drop(pid)
			}
		},
		"refused": func(c *clock.Clock, pid int) { c.Drop(pid); c.Set(pid, -1); c.Tick(-1); c.Tick(most) },
	}
	for what, gone := range ways {
		c := clock.New()
		sets(t, what, c, most, -1)
		bytes := held(func() {
			for pid := range count {
				c.Set(pid, 1)
				c.Set(pid, 2)
				c.Set(-1, 0)
				c.Drop(-2 - pid)
				c.Waits()
				gone(c, pid)
			}
		})
		c.Tick(1)
		if bytes > bound {
			t.Errorf("%s: %d bytes are held", what, bytes)
		}
		hasWaits(t, what, c, -1)
	}
}

// R1, R7: as many processes as there may ever be: none of the calls but Waits has a look at each of them.
func TestMany(t *testing.T) {
	const count = api.MaxPids
	for what, time := range map[string]func(pid int) int{
		"rising":   func(pid int) int { return pid },
		"falling":  func(pid int) int { return count - 1 - pid },
		"neither":  func(pid int) int { return pid * 40503 % count }, // 40503 has no part in common with count
		"one time": func(pid int) int { return count - 1 },
	} {
		c := clock.New()
		for pid := range count {
			if !c.Set(pid, time(pid)) || c.Set(pid, 0) {
				t.Fatalf("%s: Set of %d", what, pid)
			}
		}
		waits := c.Waits()
		for pid := 0; pid < count; pid += 3 {
			if !c.Drop(pid) || c.Drop(pid) {
				t.Fatalf("%s: Drop of %d", what, pid)
			}
		}
		want := slices.DeleteFunc(waits, func(pid int) bool { return pid%3 == 0 })
		hasAll := slices.Equal(c.Waits(), want)
		var told []int
		for range count {
			all, _ := c.Tick(1)
			told = append(told, all...)
		}
		if !hasAll || !slices.Equal(told, want) || len(told) != count-(count+2)/3 {
			t.Errorf("%s: %d were told (all of those that waited: %v)", what, len(told), hasAll)
		}
		hasWaits(t, what, c)
	}
}
