package name_test

import (
	"runtime"
	"slices"
	"strconv"
	"strings"
	"testing"

	"pigeonhole/api"
	"pigeonhole/name"
)

// spoil changes a row, and what is behind its end.
func spoil[T any](row []T, by T) {
	row = row[:cap(row)]
	for i := range row {
		row[i] = by
	}
}

// R3: what is told may be changed by who asked; asked again, it is as it was.
func TestToldIsNew(t *testing.T) {
	n := some(t)
	want := slices.Clone(n.All())
	for range 3 {
		spoil(n.All(), named("x", 3))
		hasAll(t, "told again", n, want...)
		isNobodys(t, "told again", n, "x")
		isHis(t, "told again", n, "c", 3)
	}
	spoil(n.End(3), "a")
	isNobodys(t, "behind the end", n, "c")
	isHis(t, "behind the end", n, "a", -1)
	hasAll(t, "behind the end", n, named("", 0), named("a", -1), named("b", 1), named("\xff", 2))
	ends(t, "again", n, 3)
	ends(t, "another one", n, -1, "a")
}

// R3: what was told stays as it is, whatever is done behind it.
func TestToldStays(t *testing.T) {
	n := some(t)
	all, ended := n.All(), n.End(3)
	wantAll, wantEnded := slices.Clone(all), slices.Clone(ended)
	for i := range 50 {
		n.Take(strconv.Itoa(i - 1))
		n.Put(strconv.Itoa(i), 3)
		n.All()
		n.End(i % 4)
	}
	if !slices.Equal(all, wantAll) || !slices.Equal(ended, wantEnded) {
		t.Errorf("All became %#v, End %q", all, ended)
	}
}

// R4: one thing is told alike each time, and of Names that were made in another order.
func TestToldAlike(t *testing.T) {
	n, m := name.New(), name.New()
	const count = 1000
	for i := range count {
		puts(t, "rising", n, named(strconv.Itoa(i), i))
		puts(t, "falling", m, named(strconv.Itoa(count-1-i), count-1-i))
	}
	want := n.All()
	for range 20 {
		hasAll(t, "rising", n, want...)
		hasAll(t, "falling", m, want...)
	}
}

// held is how many bytes are held more than before, behind f.
func held(f func()) int {
	var before, behind runtime.MemStats
	runtime.GC()
	runtime.ReadMemStats(&before)
	f()
	runtime.GC()
	runtime.ReadMemStats(&behind)
	return int(behind.HeapAlloc) - int(before.HeapAlloc)
}

// R3: of a text of which a name is a piece the name alone is kept.
func TestTextIsNotKept(t *testing.T) {
	const count, most = 100, 4 << 20
	n := name.New()
	bytes := held(func() {
		for i := range count {
			text := strings.Repeat("a long text ", 1<<16) + strconv.Itoa(i)
			puts(t, "pieces", n, named(text[len(text)-5:], i))
		}
	})
	if bytes > most {
		t.Errorf("%d bytes are held", bytes)
	}
	isHis(t, "pieces", n, "xt 99", 99)
}

// Of what is gone, or was denied, nothing is kept, however many processes there have been, however long their names are.
func TestGoneIsNotKept(t *testing.T) {
	const most = 4 << 20
	ways := map[string]func(n *name.Names, text string, pid int){
		"End":     func(n *name.Names, text string, pid int) { n.End(pid) },
		"Take":    func(n *name.Names, text string, pid int) { n.Take(text) },
		"by both": func(n *name.Names, text string, pid int) { n.Take(text); n.End(pid) },
	}
	for what, gone := range ways {
		for pad, count := range map[int]int{0: 200_000, 1 << 20: 100} {
			n := name.New()
			puts(t, what, n, named("own", -1))
			long := strings.Repeat(" ", pad)
			bytes := held(func() {
				for i := range count {
					text := long + strconv.Itoa(i)
					n.Find(text)
					n.Take(text)
					n.Put(text, i)
					n.Put(text, -2-i)
					n.Put(text+"x", i)
					gone(n, text, i)
				}
			})
			if bytes > most {
				t.Errorf("%s: %d bytes are held", what, bytes)
			}
			hasAll(t, what, n, named("own", -1))
		}
	}
}

// R1, R7: as many processes as there may be, each with a name: none of the calls but All has a look at all of them.
func TestMany(t *testing.T) {
	n := name.New()
	text := func(pid int) string { return "p" + strconv.Itoa(1_000_000+pid) } // rising with their processes
	for pid := api.MaxPids - 1; pid >= 0; pid-- {
		if !n.Put(text(pid), pid) || n.Put(text(pid), -1) || n.Put("x", pid) {
			t.Fatalf("Put of %d", pid)
		}
	}
	all := n.All()
	if len(all) != api.MaxPids {
		t.Fatalf("%d names", len(all))
	}
	for pid, x := range all {
		if x != named(text(pid), pid) {
			t.Fatalf("All has %#v in the place of %d", x, pid)
		}
	}
	for pid := range api.MaxPids {
		switch got, ok := n.Find(text(pid)); {
		case got != pid || !ok:
			t.Fatalf("Find of %d: %d, %v", pid, got, ok)
		case pid%2 == 0 && !n.Take(text(pid)):
			t.Fatalf("Take of %d: false", pid)
		case pid%2 == 1 && !slices.Equal(n.End(pid), []string{text(pid)}):
			t.Fatalf("End of %d", pid)
		}
	}
	hasAll(t, "all are gone", n)
}
