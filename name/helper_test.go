package name_test

import (
	"math"
	"slices"
	"strings"
	"testing"

	"pigeonhole/api"
	"pigeonhole/name"
)

func named(text string, pid int) api.Named { return api.Named{Name: text, Pid: pid} }

// ints are processes of all kinds: rising, from end to end.
func ints() []int {
	return []int{math.MinInt, math.MinInt + 1, math.MinInt32, -7, -1, 0, 1, 2, 41, math.MaxInt32, math.MaxInt - 1, math.MaxInt}
}

// texts are names of all kinds: rising as bytes do.
func texts() []string {
	return []string{
		"",
		"\x00", "\x00\x00", "\x00a",
		" ", "'", "10", "9", "A", "Z", "_",
		"a", "a\x00", "a\x00b", "a b", "aa", strings.Repeat("a", 5000), strings.Repeat("a", 5000) + "b", "ab", "a\xff", "b",
		"e\u0301", // it looks like \u00e9
		"undefined", "\x7f",
		"\x80", "\x80\x80", "\xc3", // no text that is read by runes
		"\u00e9", "\u0416", "\ud7ff", "\ufffd", // by 16 bits the last one stands behind the next one here
		"\U0001F600", "\xfe", "\xff", "\xff\x00", "\xff\xff",
	}
}

// hasAll asks that all names are these.
func hasAll(t *testing.T, what string, n *name.Names, want ...api.Named) {
	t.Helper()
	if got := n.All(); !slices.Equal(got, want) {
		t.Errorf("%s: All: %#v, not %#v", what, got, want)
	}
}

// isHis asks that that name is pid's.
func isHis(t *testing.T, what string, n *name.Names, text string, pid int) {
	t.Helper()
	if got, ok := n.Find(text); got != pid || !ok {
		t.Errorf("%s: Find(%q): %d, %v, not %d", what, text, got, ok, pid)
	}
}

// isNobodys asks that those names are nobody's.
func isNobodys(t *testing.T, what string, n *name.Names, all ...string) {
	t.Helper()
	for _, text := range all {
		if got, ok := n.Find(text); got != 0 || ok {
			t.Errorf("%s: Find(%q): %d, %v, though it is nobody's", what, text, got, ok)
		}
	}
}

// puts puts each of them.
func puts(t *testing.T, what string, n *name.Names, all ...api.Named) {
	t.Helper()
	for _, x := range all {
		if !n.Put(x.Name, x.Pid) {
			t.Errorf("%s: Put(%q, %d): false", what, x.Name, x.Pid)
		}
	}
}

// putsNone asks that none of them can be put.
func putsNone(t *testing.T, what string, n *name.Names, all ...api.Named) {
	t.Helper()
	for _, x := range all {
		if n.Put(x.Name, x.Pid) {
			t.Errorf("%s: Put(%q, %d): true", what, x.Name, x.Pid)
		}
	}
}

// takes asks whether that name was somebody's, and takes it.
func takes(t *testing.T, what string, n *name.Names, text string, want bool) {
	t.Helper()
	if n.Take(text) != want {
		t.Errorf("%s: Take(%q): %v", what, text, !want)
	}
}

// ends asks that End of pid tells these.
func ends(t *testing.T, what string, n *name.Names, pid int, want ...string) {
	t.Helper()
	if got := n.End(pid); !slices.Equal(got, want) {
		t.Errorf("%s: End(%d): %q, not %q", what, pid, got, want)
	}
}
