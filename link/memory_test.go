package link_test

import (
	"runtime"
	"slices"
	"testing"

	"pigeonhole/api"
	"pigeonhole/link"
)

// spoil changes a row, and what is behind its end.
func spoil[T any](row []T, by T) {
	row = row[:cap(row)]
	for i := range row {
		row[i] = by
	}
}

// R3: what is told may be changed by who asked; asked again, it is as it was.
func TestToldIsNew(t *testing.T) {
	l := around(t)
	of, all := slices.Clone(l.Of(1)), slices.Clone(l.Monitors())
	for range 3 {
		spoil(l.Of(1), 77)
		spoil(l.Monitors(), monitor(77, 78, 79))
		isOf(t, "told again", l, 1, of...)
		isWatched(t, "told again", l, all...)
	}
	isOf(t, "told again", l, 77)
	ends(t, "who was in a changed row", l, 77, nil)
	linked, watched := l.End(1)
	spoil(linked, 2)
	spoil(watched, monitor(15, 6, 6))
	isOf(t, "behind the end", l, 2, 4)
	isOf(t, "behind the end", l, 4, 2)
	isWatched(t, "behind the end", l, monitor(0, 5, 2), monitor(15, 2, 5), monitor(35, 6, 6))
	ends(t, "the next one", l, 2, []int{4}, monitor(0, 5, 2))
}

// R3: what was told stays as it is, whatever is done behind it.
func TestToldStays(t *testing.T) {
	l := around(t)
	of, all := l.Of(1), l.Monitors()
	linked, watched := l.End(1)
	wantOf, wantAll, wantLinked, wantWatched := slices.Clone(of), slices.Clone(all), slices.Clone(linked), slices.Clone(watched)
	for i := range 50 {
		l.Link(1, i)
		l.Watch(i, i, 1)
		l.Of(1)
		l.Monitors()
	}
	l.End(1)
	if !slices.Equal(of, wantOf) || !slices.Equal(linked, wantLinked) || !slices.Equal(of, linked) {
		t.Errorf("Of became %v, End's links %v", of, linked)
	}
	if !slices.Equal(all, wantAll) || !slices.Equal(watched, wantWatched) {
		t.Errorf("Monitors became %v, End's monitors %v", all, watched)
	}
}

// held is how many bytes are held more than before, behind f.
func held(f func()) int {
	var before, behind runtime.MemStats
	runtime.GC()
	runtime.ReadMemStats(&before)
	f()
	runtime.GC()
	runtime.ReadMemStats(&behind)
	return int(behind.HeapAlloc) - int(before.HeapAlloc)
}

// Of what is gone nothing is kept, however many processes there have been.
func TestGoneIsNotKept(t *testing.T) {
	const n, most = 200_000, 4 << 20
	ways := map[string]func(l *link.Links, i int){
		"End":     func(l *link.Links, i int) { l.End(i + 1) },
		"taken":   func(l *link.Links, i int) { l.Unlink(i+1, i); l.Unwatch(i, i) },
		"by both": func(l *link.Links, i int) { l.Unlink(i, i+1); l.End(i) },
	}
	for what, gone := range ways {
		l := link.New()
		bytes := held(func() {
			for i := range n {
				l.Link(i, i+1)
				l.Watch(i, i, i+1)
				l.Of(-i)
				l.Link(i, i)
				l.Unlink(i, -i-1)
				l.Unwatch(-i-1, i)
				gone(l, i)
			}
		})
		if bytes > most {
			t.Errorf("%s: %d bytes are held", what, bytes)
		}
		isWatched(t, what, l)
		isOf(t, what, l, n)
		runtime.KeepAlive(l)
	}
}

// R1, R7: as many monitors as there may be Refs: processes that have nothing to do with them end without a look at all of them.
func TestManyMonitors(t *testing.T) {
	l := link.New()
	for ref := api.MaxRefs; ref >= 1; ref-- {
		if !l.Watch(ref, ref%7, 100+ref%5) {
			t.Fatalf("Watch of Ref %d: false", ref)
		}
	}
	for a := 1000; a < 1000+api.MaxPids; a++ {
		links(t, l, [2]int{a, a + 1})
		ends(t, "another one", l, a, []int{a + 1})
	}
	left := api.MaxRefs
	for _, whom := range []int{103, 100, 101, 104, 102} {
		_, watched := l.End(whom)
		left -= len(watched)
		if !slices.IsSortedFunc(watched, byRef) || len(watched) < api.MaxRefs/5 {
			t.Errorf("End(%d) tells %d monitors", whom, len(watched))
		}
		if all := l.Monitors(); len(all) != left || !slices.IsSortedFunc(all, byRef) {
			t.Errorf("behind End(%d): %d monitors, not %d", whom, len(all), left)
		}
	}
	isWatched(t, "all have told", l)
}
