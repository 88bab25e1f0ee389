package link_test

import (
	"math/rand"
	"slices"
	"testing"

	"pigeonhole/link"
)

// A book is the chapter once more, as rows that are gone through from end to end.
type book struct {
	pairs    [][2]int
	monitors []link.Monitor
}

// pairOf is the place of the link of a and b; -1, if there is none.
func (k *book) pairOf(a, b int) int {
	return slices.IndexFunc(k.pairs, func(p [2]int) bool { return p == [2]int{a, b} || p == [2]int{b, a} })
}

func (k *book) link(a, b int) bool {
	if a == b || k.pairOf(a, b) >= 0 {
		return false
	}
	k.pairs = append(k.pairs, [2]int{a, b})
	return true
}

func (k *book) unlink(a, b int) bool {
	i := k.pairOf(a, b)
	if i < 0 {
		return false
	}
	k.pairs = slices.Delete(k.pairs, i, i+1)
	return true
}

func (k *book) of(a int) (out []int) {
	for _, p := range k.pairs {
		switch a {
		case p[0]:
			out = append(out, p[1])
		case p[1]:
			out = append(out, p[0])
		}
	}
	slices.Sort(out)
	return out
}

func (k *book) watch(ref, who, whom int) bool {
	if slices.ContainsFunc(k.monitors, func(m link.Monitor) bool { return m.Ref == ref }) {
		return false
	}
	k.monitors = append(k.monitors, monitor(ref, who, whom))
	slices.SortFunc(k.monitors, byRef)
	return true
}

func (k *book) unwatch(ref, who int) bool {
	before := len(k.monitors)
	k.monitors = slices.DeleteFunc(k.monitors, func(m link.Monitor) bool { return m.Ref == ref && m.Who == who })
	return len(k.monitors) < before
}

func (k *book) end(a int) (linked []int, watched []link.Monitor) {
	linked = k.of(a)
	k.pairs = slices.DeleteFunc(k.pairs, func(p [2]int) bool { return p[0] == a || p[1] == a })
	for _, m := range k.monitors {
		if m.Whom == a {
			watched = append(watched, m)
		}
	}
	k.monitors = slices.DeleteFunc(k.monitors, func(m link.Monitor) bool { return m.Who == a || m.Whom == a })
	return linked, watched
}

// does does something by chance to both, and asks that they answer the same.
func does(t *testing.T, r *rand.Rand, l *link.Links, k *book, some []int) {
	t.Helper()
	a, b, ref := some[r.Intn(len(some))], some[r.Intn(len(some))], r.Intn(30)-10
	same := func(what string, got, want bool) {
		t.Helper()
		if got != want {
			t.Fatalf("%s of %d, %d (Ref %d): %v, not %v", what, a, b, ref, got, want)
		}
	}
	switch r.Intn(10) {
	case 0, 1, 2:
		same("Link", l.Link(a, b), k.link(a, b))
	case 3:
		same("Unlink", l.Unlink(a, b), k.unlink(a, b))
	case 4, 5, 6:
		same("Watch", l.Watch(ref, a, b), k.watch(ref, a, b))
	case 7, 8:
		same("Unwatch", l.Unwatch(ref, a), k.unwatch(ref, a))
	case 9:
		linked, watched := k.end(a)
		ends(t, "by chance", l, a, linked, watched...)
		namesNot(t, l, a, some)
	}
}

// namesNot asks that nothing names a. P14.4
func namesNot(t *testing.T, l *link.Links, a int, some []int) {
	t.Helper()
	isOf(t, "behind its end", l, a)
	for _, b := range some {
		if slices.Contains(l.Of(b), a) {
			t.Errorf("Of(%d) has %d behind its end", b, a)
		}
	}
	for _, m := range l.Monitors() {
		if m.Who == a || m.Whom == a {
			t.Errorf("%v names %d behind its end", m, a)
		}
	}
}

// bothWays asks that Of of each has the others just if theirs have it, once. P14.4
func bothWays(t *testing.T, l *link.Links, some []int) {
	t.Helper()
	for _, a := range some {
		of := l.Of(a)
		if !slices.IsSorted(of) || len(slices.Compact(slices.Clone(of))) != len(of) {
			t.Errorf("Of(%d): %v", a, of)
		}
		for _, b := range some {
			if slices.Contains(of, b) != slices.Contains(l.Of(b), a) {
				t.Errorf("Of(%d): %v; Of(%d): %v", a, of, b, l.Of(b))
			}
		}
	}
}

// P14.1 to P14.4: calls by chance.
func TestByChance(t *testing.T) {
	r := rand.New(rand.NewSource(14))
	for round := range 300 {
		some := ints()[:2+round%(len(ints())-1)]
		l, k := link.New(), &book{}
		for range 300 {
			does(t, r, l, k, some)
			a := some[r.Intn(len(some))]
			isOf(t, "by chance", l, a, k.of(a)...)
			isWatched(t, "by chance", l, k.monitors...)
		}
		bothWays(t, l, some)
		for _, a := range some {
			isOf(t, "at last", l, a, k.of(a)...)
		}
		if t.Failed() {
			return
		}
	}
}

// P14.4, P4 of the document: if all end, one behind the other, each link tells one of its two, each monitor tells once, unless its Who has ended ahead.
func TestToldOnce(t *testing.T) {
	r := rand.New(rand.NewSource(4))
	for range 100 {
		l := link.New()
		pairs, monitors := map[[2]int]int{}, map[link.Monitor]int{}
		for ref := range 60 {
			a, b := r.Intn(8), r.Intn(8)
			if l.Link(a, b) {
				pairs[[2]int{min(a, b), max(a, b)}] = 0
			}
			who, whom := r.Intn(8), r.Intn(8)
			watches(t, l, monitor(ref, who, whom))
			monitors[monitor(ref, who, whom)] = 0
		}
		place := map[int]int{}
		for at, a := range append(r.Perm(8), r.Perm(8)...) { // the second time there is nothing to tell
			if _, ended := place[a]; !ended {
				place[a] = at
			}
			linked, watched := l.End(a)
			for _, b := range linked {
				pairs[[2]int{min(a, b), max(a, b)}]++
			}
			for _, m := range watched {
				monitors[m]++
			}
			namesNot(t, l, a, r.Perm(8))
		}
		for p, told := range pairs {
			if told != 1 {
				t.Errorf("the link %v was told %d times", p, told)
			}
		}
		for m, told := range monitors {
			want := 0
			if place[m.Whom] <= place[m.Who] {
				want = 1
			}
			if told != want {
				t.Errorf("%v was told %d times, not %d", m, told, want)
			}
		}
	}
}
