package name_test

import (
	"slices"
	"testing"

	"pigeonhole/api"
	"pigeonhole/name"
)

// some are Names of some processes.
func some(t *testing.T) *name.Names {
	t.Helper()
	n := name.New()
	puts(t, "some", n, named("c", 3), named("a", -1), named("", 0), named("\xff", 2), named("b", 1))
	return n
}

// P15.2: of a process that has a name, of one that has none, and again.
func TestEnd(t *testing.T) {
	n := some(t)
	for _, pid := range []int{4, -2, 5, 77} {
		ends(t, "one that has none", n, pid)
	}
	hasAll(t, "behind the end of those that have none", n, some(t).All()...)
	ends(t, "one that has one", n, 3, "c")
	isNobodys(t, "behind the end", n, "c")
	takes(t, "behind the end", n, "c", false)
	hasAll(t, "behind the end", n, named("", 0), named("a", -1), named("b", 1), named("\xff", 2))
	for range 2 {
		ends(t, "again", n, 3)
	}
	ends(t, "below 0", n, -1, "a")
	ends(t, "the empty name", n, 0, "")
	ends(t, "the empty name, again", n, 0)
	hasAll(t, "some have ended", n, named("b", 1), named("\xff", 2))
	ends(t, "one more", n, 2, "\xff")
	ends(t, "the last one", n, 1, "b")
	hasAll(t, "all have ended", n)
}

// P15.2: one name, or none, of all processes and all names.
func TestEndAll(t *testing.T) {
	all, pids := texts(), ints()
	for shift := range all {
		n := name.New()
		var left []api.Named
		for i, pid := range pids {
			left = append(left, named(all[(i*7+shift)%len(all)], pid)) // 7 has no part in common with how many there are
		}
		puts(t, "all", n, left...)
		for len(left) > 0 {
			x := left[0]
			left = left[1:]
			ends(t, "all", n, x.Pid, x.Name)
			ends(t, "again", n, x.Pid)
			isNobodys(t, "behind the end", n, x.Name)
			for _, y := range left {
				isHis(t, "another one's end", n, y.Name, y.Pid)
			}
		}
		hasAll(t, "all have ended", n)
	}
}

// P15.2: a name that was taken is not told; what a process has been denied isn't, either.
func TestEndTaken(t *testing.T) {
	n := some(t)
	putsNone(t, "denied", n, named("d", 1), named("a", 5))
	takes(t, "taken", n, "b", true)
	ends(t, "whose name was taken", n, 1)
	ends(t, "who was denied one", n, 5)
	puts(t, "one name behind another", n, named("x", 1))
	takes(t, "one name behind another", n, "x", true)
	puts(t, "one name behind another", n, named("y", 1))
	ends(t, "the name that it has", n, 1, "y")
	isNobodys(t, "behind the end", n, "b", "x", "y", "d")
	hasAll(t, "behind the end", n, named("", 0), named("a", -1), named("c", 3), named("\xff", 2))
}

// P15.2: of a name that went from one process to another the earlier one has nothing any more.
func TestEndEarlier(t *testing.T) {
	n := name.New()
	puts(t, "the earlier one", n, named("a", 1))
	takes(t, "the earlier one", n, "a", true)
	puts(t, "the later one", n, named("a", 2))
	ends(t, "the earlier one", n, 1)
	isHis(t, "the later one", n, "a", 2)
	ends(t, "the later one", n, 2, "a")
	puts(t, "by an end", n, named("a", 3))
	ends(t, "the later one, again", n, 2)
	isHis(t, "by an end", n, "a", 3)
}

// P15.2: rising as bytes do, in whatever order they were put.
func TestAllRising(t *testing.T) {
	all := texts()
	if !slices.IsSorted(all) || len(slices.Compact(slices.Clone(all))) != len(all) {
		t.Fatal("the names here do not rise")
	}
	for shift := range all {
		n := name.New()
		want := make([]api.Named, len(all))
		for i := range all {
			at := (i*7 + shift) % len(all) // 7 has no part in common with how many there are
			pid := (i*11+shift)%40 - 20    // not in their order
			want[at] = named(all[at], pid)
			puts(t, "all", n, want[at])
		}
		hasAll(t, "all", n, want...)
		var left []api.Named
		for i, x := range want {
			switch i % 3 {
			case 0:
				left = append(left, x)
			case 1:
				takes(t, "a third", n, x.Name, true)
			case 2:
				ends(t, "a third", n, x.Pid, x.Name)
			}
		}
		hasAll(t, "a third", n, left...)
	}
}

// P15.2: All behind each call, and of none.
func TestAllBehindEach(t *testing.T) {
	n := name.New()
	hasAll(t, "none", n)
	puts(t, "Put", n, named("b", 7))
	hasAll(t, "Put", n, named("b", 7))
	puts(t, "Put", n, named("a", 9))
	hasAll(t, "Put", n, named("a", 9), named("b", 7))
	putsNone(t, "Put of what is there", n, named("a", 1), named("c", 7), named("b", 9))
	hasAll(t, "Put of what is there", n, named("a", 9), named("b", 7))
	n.Find("c")
	n.Find("a")
	hasAll(t, "Find", n, named("a", 9), named("b", 7))
	takes(t, "Take of none", n, "c", false)
	hasAll(t, "Take of none", n, named("a", 9), named("b", 7))
	ends(t, "End of none", n, 8)
	hasAll(t, "End of none", n, named("a", 9), named("b", 7))
	takes(t, "Take", n, "a", true)
	hasAll(t, "Take", n, named("b", 7))
	puts(t, "Put anew", n, named("c", 9))
	hasAll(t, "Put anew", n, named("b", 7), named("c", 9))
	ends(t, "End", n, 7, "b")
	hasAll(t, "End", n, named("c", 9))
	takes(t, "the last one", n, "c", true)
	hasAll(t, "none any more", n)
}
