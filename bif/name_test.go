package bif_test

import (
	"slices"
	"strings"
	"testing"

	"pigeonhole/api"
	"pigeonhole/lint"
)

// P10.1: each name with each arity that it has, and with others; the chapter's table and lint.Kind have the same names.
func TestNamesAndArities(t *testing.T) {
	known := signatures()
	if len(known) != 57 {
		t.Errorf("%d of them", len(known))
	}
	fillers := [][]api.Term{times(300, num(1)), times(300, list()), times(300, list(num(49))), times(300, tuple(num(1))), times(300, atom("true"))}
	for _, s := range append(known, worldly...) {
		for _, arity := range []int{0, 1, 2, 3, 4, 5, 12, 13, 255, 256, 257, 258, 259} {
			built := slices.Contains(known, signature{s.name, arity})
			if kind := lint.Kind(s.name, arity); built != (kind == lint.Pure || kind == lint.Guards) {
				t.Errorf("%s/%d: lint tells %d", s.name, arity, kind)
			}
			for _, filler := range fillers {
				if got := called(s.name, filler[:arity]...); built != (got != "") {
					t.Errorf("%s/%d: %s", s.name, arity, cut(got))
				}
			}
		}
		refuses(t, s.name)
	}
}

// P10.1: names that are not built in, nearly so among them.
func TestOtherNames(t *testing.T) {
	others := []string{"", " ", "f", "andalso", "orelse", "=", "/", "//", "=<=", "is_float", "apply", "if", "send", "\x00", "\xff", strings.Repeat("a", 1<<16)}
	for _, s := range append(signatures(), worldly...) {
		others = append(others, s.name+" ", " "+s.name, strings.ToUpper(s.name)+"X", s.name+"\x00", s.name+"/1", "'"+s.name+"'", s.name+s.name+s.name)
	}
	for _, name := range others {
		for arity := range 5 {
			refuses(t, name, times(arity, num(1))...)
			refuses(t, name, times(arity, list(num(1)))...)
		}
	}
}

// P10.1: arguments that are not right, in each place, beside such as are.
func TestArgumentsThatAreNotRight(t *testing.T) {
	beside := []api.Term{num(1), list(num(1)), tuple(num(1)), atom("true")}
	for _, s := range signatures() {
		for _, flaw := range flaws() {
			for place := range s.arity {
				for _, right := range beside {
					args := times(s.arity, right)
					args[place] = flaw
					refuses(t, s.name, args...)
				}
			}
			refuses(t, s.name, times(s.arity, flaw)...)
		}
	}
	for _, s := range worldly {
		refuses(t, s.name, times(s.arity, flaws()[0])...)
	}
}
