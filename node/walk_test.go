package node_test

import (
	"math"
	"math/rand"
	"runtime/debug"
	"strings"
	"testing"

	"pigeonhole/api"
	"pigeonhole/node"
)

// looped is a tuple of tuples that lead back into themselves, each by so many steps.
func looped(size int) api.Node {
	rows := make([][]api.Node, size)
	for i := range rows {
		rows[i] = make([]api.Node, 1)
	}
	for i := range rows {
		rows[i][0] = api.Node{Kind: api.NodeTuple, At: i, Kids: rows[(i+1)%size]}
	}
	return rows[0][0]
}

// doubled is a tuple of two tuples of two tuples .. of n: small in memory, without number as a tree.
func doubled(n api.Node, times int) api.Node {
	for range times {
		n = tuple(n, n)
	}
	return n
}

// crossed has at each depth what stands one and two below it.
func crossed(n api.Node, times int) api.Node {
	below := tuple(n)
	for range times {
		n, below = below, tuple(below, n)
	}
	return below
}

// chain is so deep, and has n at its end.
func chain(n api.Node, deep int) api.Node {
	row := make([]api.Node, deep)
	for i := range deep - 1 {
		row[i] = api.Node{Kind: api.NodeTuple, Kids: row[i+1 : i+2]}
	}
	row[deep-1] = n
	return row[0]
}

// P4.1
func TestDeep(t *testing.T) {
	for i, c := range []struct {
		n    api.Node
		deep int
	}{
		{api.Node{}, 1}, {of(255), 1}, {one, 1}, {api.Node{Kind: api.NodeTuple, Kids: []api.Node{}}, 1}, {block(), 1}, {module(), 1},
		{tuple(one), 2}, {tuple(one, x, f), 2}, {call(tuple(one, x)), 3}, {tuple(tuple(tuple()), one), 3}, {tuple(one, tuple(tuple(one)), tuple(one)), 4}, {tuple(tuple(tuple(one)), one), 4},
		{fun(arm()), 4}, {fun(guarded()), 5}, {module(function("f", guarded())), 6}, {numbered(-1, said(77, "?", said(99, "", api.Node{At: -1}))), 3},
		{nested(one, 49), 50}, {nested(one, 50), 51}, {nested(one, 1000), 1001}, {tuple(repeated(tuple(one), 100000)...), 3},
	} {
		if got := node.Deep(c.n); got != c.deep {
			t.Errorf("%d: %d, not %d", i, got, c.deep)
		}
	}
}

// P4.1
func TestSame(t *testing.T) {
	trees := append(rightTrees(), wrongTrees()...)
	for i, a := range trees {
		for k, b := range trees {
			if want := sameByWords(a, b); node.Same(a, b) != want || i == k && !want {
				t.Errorf("%v, %v: %t", a, b, !want)
			}
		}
	}
	none := api.Node{Kind: api.NodeTuple, Kids: []api.Node{}}
	if !node.Same(none, tuple()) || !node.Same(tuple(tuple()), tuple(none)) || !node.Same(api.Node{}, api.Node{At: -5}) { // R6
		t.Error("no kids")
	}
	long := strings.Repeat("a", 1<<20)
	if !node.Same(text(long), text(strings.Clone(long))) || node.Same(text(long), text(long[1:])) || node.Same(text(long+"b"), text(long+"c")) {
		t.Error("long texts")
	}
}

func sameByWords(a, b api.Node) bool {
	if a.Kind != b.Kind || a.Text != b.Text || a.Num != b.Num || len(a.Kids) != len(b.Kids) {
		return false
	}
	for i := range a.Kids {
		if !sameByWords(a.Kids[i], b.Kids[i]) {
			return false
		}
	}
	return true
}

// P4.1: a difference, wherever it is.
func TestSameButForOne(t *testing.T) {
	for i, n := range append(rightTrees(), wrongTrees()...) {
		turned := copied(n)
		eachNode(&turned, func(within *api.Node) {
			was := *within
			ask := func(same bool, what string) {
				if node.Same(n, turned) != same || node.Same(turned, n) != same {
					t.Errorf("tree %d, a node of kind %d, %s: %t", i, was.Kind, what, !same)
				}
				*within = was
			}
			within.At += 3
			ask(true, "At")
			within.Kind++
			ask(false, "Kind")
			within.Text += "a"
			ask(false, "Text")
			within.Num--
			ask(false, "Num")
			within.Kids = append(was.Kids[:len(was.Kids):len(was.Kids)], one)
			ask(false, "a kid more")
			if len(was.Kids) > 0 {
				within.Kids = was.Kids[1:]
				ask(false, "a kid less")
			}
		})
	}
}

// P4.1: trees by chance, and what comes of them by a few changes.
func TestSameByChance(t *testing.T) {
	m := &maker{chance: rand.New(rand.NewSource(5))}
	for i := range 5000 {
		m.room = i % 4
		a := m.item()
		b := copied(a)
		for range m.chance.Intn(3) {
			m.spoil(&b)
		}
		if want := sameByWords(a, b); node.Same(a, b) != want || node.Same(b, a) != want {
			t.Fatalf("%v, %v: %t", a, b, !want)
		}
	}
}

// R1: trees that have no end.
func TestLoops(t *testing.T) {
	row := make([]api.Node, 3)
	row[0], row[1], row[2] = one, tuple(row...), api.Node{Kind: api.NodeModule, Kids: row[:1]}
	row[1].Kids = row
	block := make([]api.Node, 1)
	block[0] = api.Node{Kind: api.NodeBlock, Kids: block}
	wide := make([]api.Node, 1000)
	for i := range wide {
		wide[i] = api.Node{Kind: api.NodeList, Kids: wide}
	}
	for i, n := range []api.Node{looped(1), looped(2), looped(1000), tuple(one, looped(3)), tuple(row...), row[1], block[0], wide[0], match(x, looped(1)), op("-", looped(1)), call(f, looped(5)), module(block[0])} {
		if node.Right(n) || node.Pattern(n) || node.Guard(n) {
			t.Errorf("%d is right", i)
		}
		if node.Deep(n) != math.MaxInt {
			t.Errorf("%d: %d deep", i, node.Deep(n))
		}
		if !node.Same(n, n) || node.Same(n, one) || node.Same(nested(one, 100), n) {
			t.Errorf("%d: Same", i)
		}
	}
	if !node.Same(looped(2), looped(3)) || !node.Same(looped(1), tuple(looped(7))) || !node.Same(looped(20011), looped(20021)) {
		t.Error("both are tuples of tuples without an end")
	}
	other := looped(6)
	other.Kids[0].Kids[0].Kids[0].Num = 1
	if node.Same(looped(2), other) || node.Same(other, looped(1)) || !node.Same(looped(1), looped(1).Kids[0].Kids[0].Kids[0]) {
		t.Error("one of the six has a Num")
	}
}

// R1: trees that have kids in common.
func TestKidsInCommon(t *testing.T) {
	for _, times := range []int{1, 5, 12, 40, 49, 50, 60, 2000} {
		for i, n := range []api.Node{doubled(one, times), crossed(one, times)} {
			deep := times + 1 + i
			if node.Deep(n) != deep {
				t.Errorf("%d times: %d deep, not %d", times, node.Deep(n), deep)
			}
			if right := times <= 12; node.Right(n) != right || node.Pattern(n) != right || node.Guard(n) != right {
				t.Errorf("%d times: %t", times, node.Right(n))
			}
		}
		if !node.Same(doubled(one, times), doubled(num("1"), times)) || node.Same(doubled(one, times), doubled(x, times)) || node.Same(doubled(one, times), doubled(one, times+1)) {
			t.Errorf("%d times: Same of doubled ones", times)
		}
		if !node.Same(crossed(one, times), crossed(one, times)) || node.Same(crossed(one, times), crossed(x, times)) || node.Same(crossed(one, times), doubled(one, times)) {
			t.Errorf("%d times: Same of crossed ones", times)
		}
	}
}

// P4.1: kids in common count as often as they stand there.
func TestCommonKidsAreCounted(t *testing.T) {
	half := tuple(repeated(one, 8190)...)
	if n := tuple(half, half); !node.Right(tuple(half, nested(one, 2))) || !node.Right(n) || howMany(n) != 16383 || !node.Right(tuple(half, half, one)) || node.Right(tuple(half, half, one, one)) {
		t.Error("two halves")
	}
	eachOfTwo := []api.Node{one, x}
	if n := tuple(of(api.NodeTuple, eachOfTwo...), of(api.NodeList, eachOfTwo[:1]...), of(api.NodeTuple, eachOfTwo[1:]...)); !node.Right(n) || node.Deep(n) != 3 {
		t.Error("pieces of one row")
	}
	a := tuple(of(api.NodeTuple, eachOfTwo[:1]...), of(api.NodeTuple, eachOfTwo...))
	b := tuple(of(api.NodeTuple, eachOfTwo...), of(api.NodeTuple, eachOfTwo[:1]...))
	if node.Same(a, b) || !node.Same(a, copied(a)) {
		t.Error("pieces of one row that begin alike")
	}
}

// R1: trees that are deeper than the stack has room for.
func TestVeryDeep(t *testing.T) {
	defer debug.SetMaxStack(debug.SetMaxStack(1 << 20))
	const deep = 300000
	n := chain(one, deep)
	if node.Deep(n) != deep || node.Right(n) || node.Pattern(n) || node.Guard(n) {
		t.Errorf("%d", node.Deep(n))
	}
	if !node.Same(n, chain(one, deep)) || node.Same(n, chain(x, deep)) || node.Same(n, chain(one, deep-1)) {
		t.Error("Same")
	}
}

// R1: any bytes make a tree, and it has its answers.
func FuzzTrees(f *testing.F) {
	for _, s := range []string{"", "\x01\x00\x05\x02", "\x13\x00\x13\x00\x01\x00\x13\x01\x14\x03\x0a\x01", "\x13\x00\x16\x01"} {
		f.Add(s)
	}
	f.Fuzz(func(t *testing.T, s string) {
		n := built(s)
		againstWords(t, n)
		if !node.Same(n, copied(n)) {
			t.Fatalf("%v", n)
		}
	})
}

// built makes a node of each two bytes, out of those that stand last: a kind, and how many kids.
func built(s string) api.Node {
	texts := []string{"", "1", "a", "X", "-", "++", "not", "_"}
	var row []api.Node
	for ; len(s) > 1; s = s[2:] {
		kids := min(int(s[1]&7), len(row))
		rest := len(row) - kids
		n := api.Node{Kind: api.NodeKind(s[0] & 31), Text: texts[s[1]>>3&7], Num: int(s[1] >> 6), At: int(s[0] >> 5), Kids: append([]api.Node(nil), row[rest:]...)}
		row = append(row[:rest], n)
	}
	if len(row) == 1 {
		return row[0]
	}
	return tuple(row...)
}
