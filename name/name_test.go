package name_test

import (
	"math"
	"strings"
	"testing"

	"pigeonhole/name"
)

// The chapter's example. P15.1, P15.2, P15.3
func TestExample(t *testing.T) {
	n := name.New()
	puts(t, "the first one", n, named("a", 7))
	putsNone(t, "a name, and a process, that is there", n, named("a", 8), named("b", 7))
	isHis(t, "the first one", n, "a", 7)
	ends(t, "the first one", n, 7, "a")
	isNobodys(t, "behind the end", n, "a")
	puts(t, "anew", n, named("b", 7))
	hasAll(t, "anew", n, named("b", 7))
}

// P15.1
func TestNew(t *testing.T) {
	n, m := name.New(), name.New()
	if n == nil || m == nil || n == m {
		t.Fatal("no Names of their own")
	}
	hasAll(t, "new", n)
	isNobodys(t, "new", n, texts()...)
	for _, text := range texts() {
		takes(t, "new", n, text, false)
	}
	for _, pid := range ints() {
		ends(t, "new", n, pid)
	}
	puts(t, "new", n, named("a", 7), named("", 0))
	hasAll(t, "others", m)
	isNobodys(t, "others", m, "a", "")
	puts(t, "others", m, named("a", 0))
	takes(t, "others", m, "a", true)
	ends(t, "others", m, 7)
	hasAll(t, "the first ones", n, named("", 0), named("a", 7))
}

// P15.1: a name is put once, by whomever it is put again; it stays whose it is.
func TestPutNameTwice(t *testing.T) {
	for _, text := range texts() {
		n := name.New()
		puts(t, "once", n, named(text, 7))
		for range 2 {
			for _, pid := range append(ints(), 7, 8) {
				putsNone(t, "a name twice", n, named(text, pid))
			}
			isHis(t, "a name twice", n, text, 7)
		}
		hasAll(t, "a name twice", n, named(text, 7))
		for _, pid := range ints() { // whom a name was denied has none
			ends(t, "who was denied it", n, pid)
		}
		puts(t, "who was denied it", n, named(text+"x", 8))
		isHis(t, "who was denied it", n, text+"x", 8)
	}
}

// P15.1: a process has one name: it is put under no second one, which stays nobody's.
func TestPutProcessTwice(t *testing.T) {
	for _, pid := range ints() {
		n := name.New()
		puts(t, "once", n, named("own", pid))
		for range 2 {
			for _, text := range texts() {
				putsNone(t, "a process twice", n, named(text, pid))
				isNobodys(t, "a process twice", n, text)
				takes(t, "a process twice", n, text, false)
			}
			isHis(t, "a process twice", n, "own", pid)
		}
		hasAll(t, "a process twice", n, named("own", pid))
		puts(t, "the name that was denied", n, named("", pid^1))
		isHis(t, "the name that was denied", n, "", pid^1)
	}
}

// P15.1: a name that is one's, and a process that has another one.
func TestPutBothTwice(t *testing.T) {
	n := name.New()
	puts(t, "two", n, named("a", 1), named("b", 2))
	putsNone(t, "crosswise", n, named("a", 2), named("b", 1))
	isHis(t, "crosswise", n, "a", 1)
	isHis(t, "crosswise", n, "b", 2)
	hasAll(t, "crosswise", n, named("a", 1), named("b", 2))
}

// P15.1: Find ahead of Put and behind it, of all names and all processes.
func TestFind(t *testing.T) {
	all, pids := texts(), ints()
	for shift := range pids {
		n := name.New()
		for i, pid := range pids {
			text := all[(i*5+shift)%len(all)]
			isNobodys(t, "ahead of Put", n, text)
			puts(t, "all", n, named(text, pid))
			isHis(t, "behind Put", n, text, pid)
		}
		for i, pid := range pids {
			isHis(t, "behind all", n, all[(i*5+shift)%len(all)], pid)
		}
		if got := len(n.All()); got != len(pids) {
			t.Errorf("%d names, not %d", got, len(pids))
		}
	}
}

// P15.1: all kinds of names are apart, however alike they begin, or look.
func TestNamesAreApart(t *testing.T) {
	all := texts()
	n := name.New()
	for i, text := range all {
		isNobodys(t, "ahead", n, all[i:]...)
		puts(t, "rising", n, named(text, i-5))
	}
	for i, text := range all {
		isHis(t, "all", n, text, i-5)
	}
	for i, text := range all {
		takes(t, "all", n, text, true)
		isNobodys(t, "those that were taken", n, all[:i+1]...)
		for j, left := range all[i+1:] {
			isHis(t, "those that are left", n, left, i+1+j-5)
		}
	}
	hasAll(t, "all were taken", n)
}

// P15.1: names that are not there, though others are that begin, end, or look like them.
func TestFindNone(t *testing.T) {
	n := name.New()
	puts(t, "some", n, named("ab", 1), named("B", 2), named("\u00e9", 3), named("\xff", 4), named("c\x00", 5))
	none := []string{
		"", "a", "b", "abc", "abab", "AB", "Ab", "aB", "ab ", " ab", "ab\x00", "BB",
		"e\u0301", "\xc3", "\xa9", "\xe9", "\xfe", "\x80", "\ufffd", "\xff\xff", "c", "c\x00\x00", "1", "\x01",
	}
	isNobodys(t, "none", n, none...)
	for _, text := range none {
		takes(t, "none", n, text, false)
	}
	hasAll(t, "none", n, named("B", 2), named("ab", 1), named("c\x00", 5), named("\u00e9", 3), named("\xff", 4))
}

// P15.1: of a name that is somebody's, of one that is nobody's, and again.
func TestTake(t *testing.T) {
	for _, pid := range ints() {
		for _, text := range texts() {
			n := name.New()
			takes(t, "ahead of Put", n, text, false)
			puts(t, "one", n, named(text, pid), named("another", 77))
			takes(t, "another one", n, text+"?", false)
			isHis(t, "another one was taken", n, text, pid)
			takes(t, "one", n, text, true)
			isNobodys(t, "taken", n, text)
			for range 2 {
				takes(t, "again", n, text, false)
			}
			hasAll(t, "taken", n, named("another", 77))
			ends(t, "whose name was taken", n, pid)
		}
	}
}

// P15.1: long names that differ in a byte alone.
func TestLongNames(t *testing.T) {
	const long = 1 << 20
	a := strings.Repeat("a", long)
	n := name.New()
	puts(t, "long", n, named(a+"2", 2), named(a, 0), named(a+"1", 1), named("b"+a, 3))
	isNobodys(t, "long", n, a+"3", a[1:], a+"a", "c"+a)
	for i, text := range []string{a, a + "1", a + "2", "b" + a} {
		isHis(t, "long", n, text, i)
		if got := n.All()[0]; got != named(text, i) {
			t.Errorf("All begins with the name of %d, of %d bytes", got.Pid, len(got.Name))
		}
		takes(t, "long", n, text, true)
	}
	hasAll(t, "long", n)
}

// P15.1: the process 0 is one like others: what Find tells of it is told with true.
func TestProcessZero(t *testing.T) {
	n := name.New()
	puts(t, "0", n, named("zero", 0))
	isHis(t, "0", n, "zero", 0)
	isNobodys(t, "0", n, "", "0", "none")
	putsNone(t, "0", n, named("zero", 1), named("none", 0))
	ends(t, "0", n, 0, "zero")
	isNobodys(t, "behind the end", n, "zero")
	puts(t, "no name", n, named("", math.MaxInt))
	isHis(t, "no name", n, "", math.MaxInt)
	ends(t, "no name", n, math.MaxInt, "")
	ends(t, "no name", n, math.MaxInt)
}
