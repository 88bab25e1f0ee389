package lint_test

import (
	"math"
	"strconv"
	"strings"
	"testing"

	"pigeonhole/lint"
)

// The chapter's table, as it stands there.
var tableRows = map[int]string{
	2: "+ - * div rem == /= =:= =/= < =< > >= and or xor / 2; + - not / 1; abs hd tl length tuple_size is_integer is_atom is_tuple is_list is_pid is_reference is_function is_boolean / 1; element is_function / 2",
	1: "++ -- max min nth nthtail member seq / 2; setelement / 3; tuple_to_list list_to_tuple atom_to_list list_to_atom integer_to_list list_to_integer reverse sum sort usort last throw error exit / 1",
	3: "self make_ref now / 0; spawn spawn_link spawn_monitor link unlink monitor demonitor trap_exit unregister whereis print / 1; ! exit register / 2",
}

type called struct {
	name  string
	arity int
}

// table is the kinds of what the chapter's table has.
var table = tabled()

func tabled() map[called]int {
	out := map[called]int{}
	for kind, row := range tableRows {
		for _, group := range strings.Split(row, "; ") {
			words := strings.Fields(group)
			arity, _ := strconv.Atoi(words[len(words)-1])
			for _, name := range words[:len(words)-2] {
				out[called{name, arity}] = kind
			}
		}
	}
	return out
}

// P7.1: each name of the table, with its arity and with those beside it.
func TestKindOfTable(t *testing.T) {
	if lint.None != 0 || lint.Pure != 1 || lint.Guards != 2 || lint.World != 3 {
		t.Error("the kinds' numbers")
	}
	if len(table) != 74 {
		t.Errorf("%d of them", len(table))
	}
	for known := range table {
		for _, arity := range []int{math.MinInt, -256, -2, -1, 0, 1, 2, 3, 4, 5, 12, 13, 255, 256, 257, 1 << 32, 1<<32 + 1, math.MaxInt} {
			if got, want := lint.Kind(known.name, arity), table[called{known.name, arity}]; got != want {
				t.Errorf("%s/%d: %d, not %d", known.name, arity, got, want)
			}
		}
	}
}

// P7.1: names that are not in the table, those that are nearly so among them.
func TestKindOfOthers(t *testing.T) {
	others := []string{"", " ", "f", "andalso", "orelse", "=", "->", "_", "X", "when", "if", "receive", "float", "is_float", "map", "node", "send", "put", "/", "//", "+-", "=<=", "hd/1", "1", "\x00", "\xff", strings.Repeat("a", 1<<16)}
	for known := range table {
		for _, near := range []string{known.name + " ", " " + known.name, known.name + known.name, strings.ToUpper(known.name), known.name[1:], known.name[:len(known.name)-1], "'" + known.name + "'", known.name + "\x00", known.name + " hd", known.name + ",", known.name + "/" + strconv.Itoa(known.arity)} {
			others = append(others, near)
		}
	}
	for _, name := range others {
		for arity := -1; arity <= 13; arity++ {
			if got, want := lint.Kind(name, arity), table[called{name, arity}]; got != want {
				t.Errorf("%q/%d: %d, not %d", name, arity, got, want)
			}
		}
	}
}
