package name_test

import (
	"cmp"
	"math/rand"
	"slices"
	"testing"

	"pigeonhole/api"
	"pigeonhole/name"
)

// A book is the chapter once more, as a row that is gone through from end to end.
type book []api.Named

// at is the place of the one of that name; -1, if there is none.
func (b book) at(text string) int {
	return slices.IndexFunc(b, func(x api.Named) bool { return x.Name == text })
}

func (b *book) put(text string, pid int) bool {
	if slices.ContainsFunc(*b, func(x api.Named) bool { return x.Name == text || x.Pid == pid }) {
		return false
	}
	*b = append(slices.Clone(*b), named(text, pid))
	slices.SortFunc(*b, func(x, y api.Named) int { return cmp.Compare(x.Name, y.Name) })
	return true
}

func (b *book) take(text string) bool {
	i := b.at(text)
	if i >= 0 {
		*b = slices.Delete(slices.Clone(*b), i, i+1)
	}
	return i >= 0
}

func (b book) find(text string) (int, bool) {
	if i := b.at(text); i >= 0 {
		return b[i].Pid, true
	}
	return 0, false
}

func (b *book) end(pid int) (out []string) {
	var left book
	for _, x := range *b {
		if x.Pid == pid {
			out = append(out, x.Name)
		} else {
			left = append(left, x)
		}
	}
	*b = left
	return out
}

// same asks that n and b tell the same of these names.
func same(t *testing.T, n *name.Names, b book, all []string) {
	t.Helper()
	for _, text := range all {
		got, ok := n.Find(text)
		if want, wanted := b.find(text); got != want || ok != wanted {
			t.Errorf("Find(%q): %d, %v, not %d, %v", text, got, ok, want, wanted)
		}
	}
	hasAll(t, "as the chapter has it", n, b...)
}

// A call is one of both.
type call struct {
	what string
	text string
	pid  int
}

// does does c to both, and asks that they answer the same.
func does(t *testing.T, n *name.Names, b *book, c call) {
	t.Helper()
	switch c.what {
	case "Put":
		if got, want := n.Put(c.text, c.pid), b.put(c.text, c.pid); got != want {
			t.Errorf("Put(%q, %d): %v, not %v", c.text, c.pid, got, want)
		}
	case "Take":
		takes(t, "as the chapter has it", n, c.text, b.take(c.text))
	case "End":
		ends(t, "as the chapter has it", n, c.pid, b.end(c.pid)...)
	}
}

// P15.1 to P15.3: each row of four calls, of three names and three processes.
func TestEachRow(t *testing.T) {
	all := []string{"", "a", "a\x00"}
	var calls []call
	for i, text := range all {
		for pid := range 3 {
			calls = append(calls, call{"Put", text, pid})
		}
		calls = append(calls, call{"Take", text, 0}, call{"End", "", i})
	}
	var goOn func(row []call)
	goOn = func(row []call) {
		n, b := name.New(), book{}
		for _, c := range row {
			does(t, n, &b, c)
		}
		same(t, n, b, all)
		if t.Failed() {
			t.Fatalf("behind %v", row)
		}
		for _, c := range calls {
			if len(row) < 4 {
				goOn(append(row, c))
			}
		}
	}
	goOn(nil)
}

// P15.1 to P15.3: calls by chance.
func TestByChance(t *testing.T) {
	r := rand.New(rand.NewSource(15))
	for round := range 400 {
		all, pids := texts(), ints()
		r.Shuffle(len(all), func(i, j int) { all[i], all[j] = all[j], all[i] })
		all, pids = all[:1+round%len(all)], pids[:1+round%len(pids)]
		n, b := name.New(), book{}
		for range 100 {
			what := []string{"Put", "Put", "Put", "Put", "Take", "End"}[r.Intn(6)]
			does(t, n, &b, call{what, all[r.Intn(len(all))], pids[r.Intn(len(pids))]})
			same(t, n, b, all)
			if t.Failed() {
				return
			}
		}
		for _, pid := range append(pids, pids...) { // the second time there is nothing to tell
			does(t, n, &b, call{"End", "", pid})
		}
		hasAll(t, "all have ended", n)
	}
}

// P15.3: what is put is found, whatever else is put, denied, taken and ended, till it is taken or its process has ended.
func TestFoundTillGone(t *testing.T) {
	gone := map[string]func(n *name.Names){
		"taken": func(n *name.Names) { takes(t, "at last", n, "own", true) },
		"ended": func(n *name.Names) { ends(t, "at last", n, 7, "own") },
	}
	for how, f := range gone {
		n := name.New()
		puts(t, how, n, named("own", 7))
		for i, text := range texts() {
			pid := 100 + i
			puts(t, how, n, named(text, pid))
			isHis(t, how, n, "own", 7)
			putsNone(t, how, n, named("own", pid), named("own", pid+1), named("own", 7), named(text, 7), named(text+"2", 7))
			isHis(t, how, n, "own", 7)
			if i%2 == 0 {
				takes(t, how, n, text, true)
			} else {
				ends(t, how, n, pid, text)
			}
			n.Take(text)
			n.End(pid)
			n.All()
			isHis(t, how, n, "own", 7)
			putsNone(t, how, n, named("own", pid), named(text, 7))
		}
		hasAll(t, how, n, named("own", 7))
		f(n)
		isNobodys(t, how, n, "own")
		hasAll(t, how, n)
		ends(t, how, n, 7)
		takes(t, how, n, "own", false)
	}
}

// P15.3: a name that is gone can be put anew, by its process and by another one; the process can have another name.
func TestAnew(t *testing.T) {
	n := name.New()
	puts(t, "first", n, named("a", 1), named("z", 26))
	for round := range 4 {
		for how, gone := range map[string]func(){
			"Take": func() { takes(t, "anew", n, "a", true) },
			"End":  func() { ends(t, "anew", n, 1, "a") },
		} {
			gone()
			puts(t, "the same behind "+how, n, named("a", 1))
			isHis(t, "the same behind "+how, n, "a", 1)
			gone()
			puts(t, "others behind "+how, n, named("a", 2), named("b", 1))
			isHis(t, "others behind "+how, n, "a", 2)
			isHis(t, "others behind "+how, n, "b", 1)
			putsNone(t, "others behind "+how, n, named("a", 1), named("b", 2), named("a", 3), named("c", 1), named("c", 2))
			hasAll(t, "others behind "+how, n, named("a", 2), named("b", 1), named("z", 26))
			if round%2 == 0 {
				takes(t, "others", n, "b", true)
				ends(t, "others", n, 2, "a")
			} else {
				ends(t, "others", n, 1, "b")
				takes(t, "others", n, "a", true)
			}
			isNobodys(t, "others", n, "a", "b")
			puts(t, "back", n, named("a", 1))
		}
	}
	hasAll(t, "at last", n, named("a", 1), named("z", 26))
}

// P15.3: the same of all names and all processes.
func TestAnewAll(t *testing.T) {
	for _, text := range texts() {
		n := name.New()
		for i, pid := range ints() {
			puts(t, "anew", n, named(text, pid))
			isHis(t, "anew", n, text, pid)
			if i%2 == 0 {
				takes(t, "anew", n, text, true)
			} else {
				ends(t, "anew", n, pid, text)
			}
			isNobodys(t, "anew", n, text)
		}
		for _, pid := range ints() {
			puts(t, "each of its own", n, named(text+string(rune('a'+pid&15)), pid))
			ends(t, "each of its own", n, pid, text+string(rune('a'+pid&15)))
		}
		hasAll(t, "at last", n)
	}
}
