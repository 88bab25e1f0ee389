package mail_test

import (
	"runtime"
	"runtime/debug"
	"slices"
	"testing"

	"pigeonhole/api"
	"pigeonhole/mail"
)

// goes asks that x is a letter like any other in each call, and that what is handed out begins as x does.
func goes(t *testing.T, what string, x api.Term) {
	t.Helper()
	b := mail.New()
	for range 2 {
		if e := b.Put(x); e != api.OK {
			t.Errorf("%s: Put: %v", what, e)
		}
	}
	next(t, what, b, x)
	c := b.Copy()
	all := c.All()
	if len(all) != 2 || !same(all[0], x) || !same(all[1], x) {
		t.Errorf("%s: All", what)
	}
	for _, box := range []*mail.Box{b, c} {
		box.Skip()
		if y, e := box.Take(); e != api.OK || !same(y, x) {
			t.Errorf("%s: Take: %v", what, e)
		}
	}
}

// deep is a term of that many levels, by the row that wrap puts it in.
func deep(levels int, wrap func(api.Term) api.Term) api.Term {
	t := atom("end")
	for range levels {
		t = wrap(t)
	}
	return t
}

// bottom is what stands at the end of a deep term, and how many levels down.
func bottom(t api.Term) (levels int, end api.Term) {
	for {
		switch {
		case len(t.Items) > 0 && t.Items[0].Kind != api.Ref:
			t = t.Items[0]
		case len(t.Tail) > 0:
			t = t.Tail[0]
		default:
			return levels, t
		}
		levels++
	}
}

// R1: letters may be of any depth. All of them is copied.
func TestDeep(t *testing.T) {
	defer debug.SetMaxStack(debug.SetMaxStack(1 << 18))
	wraps := map[string]func(api.Term) api.Term{
		"tuples":      func(t api.Term) api.Term { return tuple(t) },
		"lists":       func(t api.Term) api.Term { return list(t, limbs(false, 1)) },
		"tails":       func(t api.Term) api.Term { return improper(t, ref(1)) },
		"tails alone": func(t api.Term) api.Term { return api.Term{Tail: []api.Term{t}} },
	}
	for what, wrap := range wraps {
		for _, levels := range []int{99, 100, 101, 102, 201, 202, 203, 200_000} {
			x := deep(levels, wrap)
			b := mail.New()
			b.Put(x)
			y, _ := b.Copy().Take()
			if n, end := bottom(y); n != levels || !same(end, atom("end")) {
				t.Errorf("%s: %d levels became %d", what, levels, n)
			}
			spoilDeep(x)
			spoilDeep(y)
			z, _ := b.Next()
			if n, end := bottom(z); n != levels || !same(end, atom("end")) {
				t.Errorf("%s: %d levels became %d behind a change", what, levels, n)
			}
		}
		goes(t, what, deep(50_000, wrap))
	}
}

// spoilDeep cuts a deep term off at each level.
func spoilDeep(t api.Term) {
	for len(t.Items) > 0 || len(t.Tail) > 0 {
		row := t.Items
		if len(row) == 0 || row[0].Kind == api.Ref {
			row = t.Tail
		}
		if len(row) == 0 {
			return
		}
		t, row[0] = row[0], atom("spoilt")
	}
}

// loops are terms that lead back into themselves.
func loops() []api.Term {
	one := make([]api.Term, 1)
	one[0] = api.Term{Kind: api.Tuple, Items: one}
	tail := make([]api.Term, 1)
	tail[0] = api.Term{Kind: api.List, Items: []api.Term{atom("a"), limbs(true, 1, 2)}, Tail: tail}
	both := make([]api.Term, 3)
	both[0] = api.Term{Kind: api.List, Items: both, Tail: both}
	both[1] = fun(1, both...)
	both[2] = api.Term{Kind: api.Tuple, Items: both[:1], Tail: both[1:]}
	far := make([]api.Term, 1)
	far[0] = deep(5000, func(t api.Term) api.Term { return tuple(t, limbs(false, 1)) })
	x := far[0]
	for len(x.Items[0].Items) > 0 {
		x = x.Items[0]
	}
	x.Items[0] = api.Term{Kind: api.List, Items: far}
	return []api.Term{one[0], tail[0], both[0], both[1], both[2], far[0], list(one[0], tail[0], both[1])}
}

// R1: letters that lead back into themselves.
func TestLoops(t *testing.T) {
	for i := range loops() {
		x := loops()[i]
		goes(t, "a loop", x)
		b := mail.New()
		b.Put(x)
		x.Items[0] = atom("spoilt")
		next(t, "a loop, behind a change", b, loops()[i])
		y, _ := b.Next()
		y.Items[0] = atom("spoilt")
		next(t, "a loop, behind a change of what was handed out", b, loops()[i])
	}
}

// doubled has two items at each level, which stand in memory once.
func doubled(levels int) api.Term {
	t := tuple(limbs(false, 1), atom("a"))
	for range levels {
		t = tuple(t, t)
	}
	return t
}

// R1: letters that are far greater written out than in memory.
func TestDoubled(t *testing.T) {
	for _, levels := range []int{1, 10, 14, 15, 16, 17, 30, 100, 1000} {
		goes(t, "doubled", doubled(levels))
	}
}

// R1: a box that is full of these is one like any other, for all its calls.
func TestFullOfDoubled(t *testing.T) {
	b := mail.New()
	x := doubled(50)
	for range api.MaxMessages {
		b.Put(x)
	}
	for range 20 {
		b = b.Copy()
	}
	var all []api.Term
	// A box that is full of right letters has as much as that to hand out, and no other one more.
	if bytes := made(func() { all = b.All() }); bytes > api.MaxMessages*api.MaxSize*300 {
		t.Errorf("All is made of %d bytes", bytes)
	}
	if len(all) != api.MaxMessages || !same(all[0], x) || !same(all[api.MaxMessages-1], x) {
		t.Errorf("All of %d letters", len(all))
	}
}

// made is how many bytes f makes.
func made(f func()) uint64 {
	var before, behind runtime.MemStats
	runtime.ReadMemStats(&before)
	f()
	runtime.ReadMemStats(&behind)
	return behind.TotalAlloc - before.TotalAlloc
}

// R1, R8: what a box keeps of a letter does not grow from copy to copy, also where a letter has no end.
func TestCopiesDoNotGrow(t *testing.T) {
	for _, x := range append(loops(), doubled(50)) {
		b := mail.New()
		b.Put(x)
		first := made(func() { b = b.Copy() })
		for range 100 {
			b = b.Copy()
		}
		if last := made(func() { b = b.Copy() }); last > 2*first+1<<14 {
			t.Errorf("the first copy is made of %d bytes, a later one of %d", first, last)
		}
		next(t, "a late copy", b, x)
	}
}

// R1: limbs that stand in memory once, and in a letter often.
func TestSharedLimbs(t *testing.T) {
	number := limbs(false, slices.Repeat([]uint32{7}, 1_000_000)...)
	x := tuple(slices.Repeat([]api.Term{number}, 100_000)...)
	b := mail.New()
	b.Put(x)
	y, ok := b.Next()
	if !ok || len(y.Items) != len(x.Items) || !same(y.Items[99_999], number) {
		t.Error("Next")
	}
	y.Items[0].Limbs[0] = 8
	number.Limbs[1] = 8
	if z, e := b.Take(); e != api.OK || z.Items[0].Limbs[0] != 7 || z.Items[50_000].Limbs[1] != 7 {
		t.Error("Take")
	}
}

// R1: a letter of many terms, no two of which share memory, is copied all through.
func TestWide(t *testing.T) {
	const n = 100_000
	wide := func() api.Term {
		items := make([]api.Term, n)
		for i := range items {
			items[i] = improper(limbs(false, uint32(i)), tuple(pid(i)))
		}
		return list(items...)
	}
	b := mail.New()
	x := wide()
	b.Put(x)
	spoil(x)
	for range 2 {
		y, _ := b.Next()
		for i, item := range y.Items {
			if !same(item, improper(limbs(false, uint32(i)), tuple(pid(i)))) {
				t.Fatalf("item %d", i)
			}
		}
		spoil(y)
	}
}

// R3: what is taken is kept no more, whether it was the first letter or the last one: the box does not hold on to it.
func TestTakenIsGone(t *testing.T) {
	const count, bytes = 20, 8 << 20
	for _, fromEnd := range []bool{false, true} {
		b := mail.New()
		for range count {
			b.Put(limbs(false, make([]uint32, bytes/4)...))
		}
		for taken := range count {
			if fromEnd {
				for range count - 1 - taken {
					b.Skip()
				}
			}
			b.Take()
		}
		runtime.GC()
		var now runtime.MemStats
		runtime.ReadMemStats(&now)
		if now.HeapAlloc > count/2*bytes {
			t.Errorf("%d bytes are held", now.HeapAlloc)
		}
		stands(t, "nothing is left", b, "", 0)
	}
}
