package clock_test

import (
	"cmp"
	"math/rand"
	"slices"
	"testing"

	"pigeonhole/clock"
)

// A book is the chapter once more: of each call what was asked is kept, and who waits is found out of it each time.
type book struct {
	now int
	all []entry
}

// An entry is one that waits.
type entry struct{ pid, due int }

func (b *book) at(pid int) int {
	return slices.IndexFunc(b.all, func(e entry) bool { return e.pid == pid })
}

func (b *book) set(pid, after int) bool {
	if b.at(pid) >= 0 || after < 0 || after > most {
		return false
	}
	b.all = append(slices.Clone(b.all), entry{pid, b.now + after})
	return true
}

func (b *book) drop(pid int) bool {
	i := b.at(pid)
	if i >= 0 {
		b.all = slices.Delete(slices.Clone(b.all), i, i+1)
	}
	return i >= 0
}

func (b *book) tick(n int) ([]int, bool) {
	if n < 0 || n > most || b.now+n > most {
		return nil, false
	}
	b.now += n
	var told, left []entry
	for _, e := range b.all {
		if e.due <= b.now {
			told = append(told, e)
		} else {
			left = append(left, e)
		}
	}
	b.all = left
	return inOrder(told), true
}

func (b *book) waits() []int { return inOrder(b.all) }

// inOrder is whose they are, by rising times, those of one time by rising numbers.
func inOrder(all []entry) (out []int) {
	all = slices.Clone(all)
	slices.SortFunc(all, func(x, y entry) int {
		return cmp.Or(cmp.Compare(x.due, y.due), cmp.Compare(x.pid, y.pid))
	})
	for _, e := range all {
		out = append(out, e.pid)
	}
	return out
}

// A call is one of both.
type call struct {
	what   string
	pid, n int
}

// does does x to both, and asks that they answer the same.
func does(t *testing.T, c *clock.Clock, b *book, x call) {
	t.Helper()
	switch x.what {
	case "Set":
		if got, want := c.Set(x.pid, x.n), b.set(x.pid, x.n); got != want {
			t.Errorf("Set(%d, %d): %v, not %v", x.pid, x.n, got, want)
		}
	case "Drop":
		drops(t, "as the chapter has it", c, b.drop(x.pid), x.pid)
	case "Tick":
		got, ok := c.Tick(x.n)
		if want, wanted := b.tick(x.n); !slices.Equal(got, want) || ok != wanted {
			t.Errorf("Tick(%d): %v, %v, not %v, %v", x.n, got, ok, want, wanted)
		}
	}
	isNow(t, "as the chapter has it", c, b.now)
}

// P16.1 to P16.3: each row of five calls, of three processes.
func TestEachRow(t *testing.T) {
	calls := []call{{"Tick", 0, 0}, {"Tick", 0, 1}, {"Tick", 0, 2}, {"Tick", 0, -1}}
	for pid := -1; pid <= 1; pid++ {
		calls = append(calls, call{"Set", pid, 0}, call{"Set", pid, 1}, call{"Set", pid, 2}, call{"Drop", pid, 0})
	}
	var goOn func(row []call)
	goOn = func(row []call) {
		c, b := clock.New(), &book{}
		for _, x := range row {
			does(t, c, b, x)
		}
		hasWaits(t, "as the chapter has it", c, b.waits()...)
		if t.Failed() {
			t.Fatalf("behind %v", row)
		}
		for _, x := range calls {
			if len(row) < 5 {
				goOn(append(row, x))
			}
		}
	}
	goOn(nil)
}

// P16.1 to P16.3: calls by chance, of few processes and of many, from 0 on and near the end.
func TestByChance(t *testing.T) {
	r := rand.New(rand.NewSource(16))
	for round := range 400 {
		pids := ints()
		if round%2 == 0 {
			for i := range 1 + round {
				pids = append(pids, i-round/2)
			}
		}
		far := []int{3, 20, 1000, most}[round/2%4]
		c, b := clock.New(), &book{}
		if round%5 == 0 {
			does(t, c, b, call{"Tick", 0, most - r.Intn(10)})
		}
		for range 200 {
			x := call{"Set", pids[r.Intn(len(pids))], r.Intn(far + 1)}
			switch r.Intn(10) {
			case 0, 1:
				x.what, x.n = "Tick", r.Intn(far/8+2)
			case 2:
				x.what = "Drop"
			case 3:
				x.what, x.n = "Tick", wrongTimes()[r.Intn(len(wrongTimes()))]
			case 4:
				x.n = wrongTimes()[r.Intn(len(wrongTimes()))]
			}
			does(t, c, b, x)
			hasWaits(t, "as the chapter has it", c, b.waits()...)
			if t.Failed() {
				t.Fatalf("round %d", round)
			}
		}
	}
}

// P16.3: who was set, and not dropped, is told just once, by the first Tick that comes to its time.
func TestToldOnce(t *testing.T) {
	r := rand.New(rand.NewSource(163))
	for range 300 {
		c := clock.New()
		due, told := map[int]int{}, map[int]int{} // of each that was set, and not dropped: its time, how often it was told
		for pid := range 60 {
			after := r.Intn(30)
			sets(t, "set", c, after, pid)
			if due[pid] = c.Now() + after; r.Intn(4) == 0 {
				drops(t, "dropped", c, true, pid)
				delete(due, pid)
			}
			if r.Intn(3) > 0 {
				continue
			}
			before := c.Now()
			all, _ := c.Tick(r.Intn(12))
			for _, pid := range all {
				if when, ok := due[pid]; !ok || when > c.Now() || when < before {
					t.Fatalf("%d, whose time is %d (%v), is told by the Tick from %d to %d", pid, when, ok, before, c.Now())
				}
				told[pid]++
			}
		}
		for range 3 { // the second time there is nothing to tell
			all, _ := c.Tick(30)
			for _, pid := range all {
				told[pid]++
			}
		}
		for pid := range 60 {
			if _, ok := due[pid]; told[pid] != 1 && ok || told[pid] != 0 && !ok {
				t.Fatalf("%d was told %d times (set, and not dropped: %v)", pid, told[pid], ok)
			}
		}
		hasWaits(t, "all are told", c)
	}
}

// P16.3: Ticks one by one tell whom one of their sum tells, in the same order: each way to part 9.
func TestTicksInPieces(t *testing.T) {
	const sum = 9
	fill := func() *clock.Clock {
		c := at(t, 4)
		for i := range 40 {
			sets(t, "some", c, i*7%13, i*11%40-20)
		}
		return c
	}
	whole := fill()
	want, _ := whole.Tick(sum)
	if len(want) < 20 || len(want) == 40 {
		t.Fatalf("%d are told", len(want))
	}
	var goOn func(left int, pieces []int)
	goOn = func(left int, pieces []int) {
		if left == 0 {
			c := fill()
			var got []int
			for _, n := range pieces {
				told, ok := c.Tick(n)
				if !ok {
					t.Errorf("%v: refused", pieces)
				}
				got = append(got, told...)
			}
			if !slices.Equal(got, want) {
				t.Errorf("%v: %v, not %v", pieces, got, want)
			}
			isNow(t, "in pieces", c, whole.Now())
			hasWaits(t, "in pieces", c, whole.Waits()...)
		}
		for n := 1; n <= left; n++ {
			goOn(left-n, append(pieces, n))
			goOn(left-n, append(pieces, 0, n))
		}
	}
	goOn(sum, nil)
}

// P16.3: who is set for now comes with the next Tick, of 0, or of more; not with one that is refused.
func TestSetForNow(t *testing.T) {
	for _, now := range []int{0, 1, 77, most - 5, most} {
		for _, n := range []int{0, 1, 5} {
			if now+n > most {
				continue
			}
			c := at(t, now)
			sets(t, "later", c, 6, 0)
			sets(t, "for now", c, 0, 5, -5)
			hasWaits(t, "for now", c, -5, 5, 0)
			ticksNone(t, "for now", c, -1, most+1)
			setsNone(t, "for now, twice", c, 0, 5, -5)
			ticks(t, "for now", c, n, -5, 5)
			ticks(t, "again", c, 0)
			sets(t, "again", c, 0, 5)
			ticks(t, "again", c, 0, 5)
			hasWaits(t, "again", c, 0)
		}
	}
}
