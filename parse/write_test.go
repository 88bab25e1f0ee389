package parse_test

import (
	"fmt"
	"math/rand"
	"strings"
	"testing"

	"pigeonhole/api"
	"pigeonhole/node"
	"pigeonhole/parse"
)

// Trees by chance are written down, each node being told where it has come to stand: what is parsed must be these trees.

// writer writes tokens with gaps between.
type writer struct {
	strings.Builder
	chance *rand.Rand
	ready  bool // the gap ahead of the next token is written
}

func (w *writer) one(texts ...string) string { return texts[w.chance.Intn(len(texts))] }

// place is where the next token will begin.
func (w *writer) place() int {
	if !w.ready {
		w.WriteString(w.one(" ", " ", " ", "\n", "\t \r\n", "% -> 'a\n", " %\n "))
	}
	w.ready = true
	return w.Len()
}

func (w *writer) put(tokens ...string) {
	for _, token := range tokens {
		w.place()
		w.WriteString(token)
		w.ready = false
	}
}

var betweenBinds = map[string]int{
	"!": 2, "orelse": 3, "andalso": 4, "==": 5, "/=": 5, "=:=": 5, "=/=": 5, "<": 5, "=<": 5, ">": 5, ">=": 5,
	"++": 6, "--": 6, "+": 7, "-": 7, "or": 7, "xor": 7, "*": 8, "div": 8, "rem": 8, "and": 8,
}

// binds is how strongly n binds.
func binds(n api.Node) int {
	switch {
	case n.Kind == api.NodeMatch:
		return 1
	case n.Kind == api.NodeOp && len(n.Kids) == 2:
		return betweenBinds[n.Text]
	case n.Kind == api.NodeOp:
		return 9
	default:
		return 10
	}
}

// item writes n, in brackets, if it binds less than is asked for, and now and then else.
func (w *writer) item(n *api.Node, asked int) {
	brackets := max(0, w.chance.Intn(12)-9)
	if binds(*n) < asked {
		brackets++
	}
	for range brackets {
		w.put("(")
	}
	n.At = w.place()
	w.inside(n)
	for range brackets {
		w.put(")")
	}
}

func (w *writer) row(sign string, row []api.Node, each func(n *api.Node)) {
	for i := range row {
		if i > 0 {
			w.put(sign)
		}
		each(&row[i])
	}
}

func (w *writer) any(n *api.Node) { w.item(n, 0) }

func (w *writer) items(opening string, row []api.Node, closing string) {
	w.put(opening)
	w.row(",", row, w.any)
	w.put(closing)
}

func quotedAs(quote, s string) string {
	var out strings.Builder
	for i := range len(s) {
		switch c := s[i]; {
		case c < 32 || c == quote[0] || c == '\\':
			fmt.Fprintf(&out, `\x%02x`, c)
		default:
			out.WriteByte(c)
		}
	}
	return quote + out.String() + quote
}

func (w *writer) inside(n *api.Node) {
	switch n.Kind {
	case api.NodeInt, api.NodeVar:
		w.put(n.Text)
	case api.NodeAtom:
		w.put(quotedAs("'", n.Text))
	case api.NodeText:
		w.put(quotedAs(`"`, n.Text))
	case api.NodeTuple:
		w.items("{", n.Kids, "}")
	case api.NodeList:
		last := len(n.Kids) - n.Num
		w.put("[")
		w.row(",", n.Kids[:last], w.any)
		if n.Num == 1 {
			w.put("|")
			w.any(&n.Kids[last])
		}
		w.put("]")
	case api.NodeOp, api.NodeMatch:
		w.operator(n)
	case api.NodeCall:
		w.item(&n.Kids[0], 10)
		w.items("(", n.Kids[1:], ")")
	case api.NodeName:
		w.put("fun", quotedAs("'", n.Text), "/", w.one("", "", "00")+fmt.Sprint(n.Num))
	case api.NodeComp:
		w.put("[")
		w.any(&n.Kids[0])
		w.put("||")
		w.row(",", n.Kids[1:], w.gen)
		w.put("]")
	default:
		w.claused(n)
	}
}

func (w *writer) operator(n *api.Node) {
	own := binds(*n)
	switch {
	case n.Kind == api.NodeMatch:
		w.item(&n.Kids[0], 2)
		w.put("=")
		w.item(&n.Kids[1], 1)
	case own == 9:
		w.put(n.Text)
		w.item(&n.Kids[0], 9)
	default:
		left, right := own, own+1
		switch own {
		case 2, 6:
			left, right = own+1, own
		case 5:
			left = own + 1
		}
		w.item(&n.Kids[0], left)
		w.put(n.Text)
		w.item(&n.Kids[1], right)
	}
}

func (w *writer) gen(n *api.Node) {
	if n.Kind != api.NodeGen {
		w.any(n)
		return
	}
	n.At = w.place()
	w.any(&n.Kids[0])
	w.put("<-")
	w.any(&n.Kids[1])
}

func (w *writer) claused(n *api.Node) {
	switch n.Kind {
	case api.NodeFun:
		w.put("fun")
		w.row(";", n.Kids, w.head)
	case api.NodeCase:
		w.put("case")
		w.any(&n.Kids[0])
		w.put("of")
		w.row(";", n.Kids[1:], w.clause)
	case api.NodeIf:
		w.put("if")
		w.row(";", n.Kids, w.clause)
	case api.NodeReceive:
		w.put("receive")
		last := len(n.Kids) - n.Num
		w.row(";", n.Kids[:last], w.clause)
		if n.Num == 1 {
			after := &n.Kids[last]
			after.At = w.place()
			w.put("after")
			w.any(&after.Kids[0])
			w.put("->")
			w.body(&after.Kids[1])
		}
	case api.NodeTry:
		w.put("try")
		w.body(&n.Kids[0])
		w.put("catch")
		w.row(";", n.Kids[1:], w.caught)
	case api.NodeBlock:
		w.put("begin")
		w.row(",", n.Kids, w.any)
	}
	w.put("end")
}

func (w *writer) body(n *api.Node) {
	n.At = w.place()
	w.row(",", n.Kids, w.any)
}

// begin tells the clause where it stands, and its two rows.
func (w *writer) begin(n *api.Node) {
	n.At = w.place()
	n.Kids[0].At, n.Kids[1].At = n.At, n.At
}

func (w *writer) head(n *api.Node) {
	w.begin(n)
	w.items("(", n.Kids[0].Kids, ")")
	w.rest(n)
}

func (w *writer) clause(n *api.Node) {
	w.begin(n)
	w.row(",", n.Kids[0].Kids, w.any)
	w.rest(n)
}

func (w *writer) caught(n *api.Node) {
	w.begin(n)
	pair := &n.Kids[0].Kids[0]
	pair.At = n.At
	pair.Kids[0].At = n.At
	w.inside(&pair.Kids[0])
	w.put(":")
	w.any(&pair.Kids[1])
	w.rest(n)
}

// rest writes a clause's guards and its body; only an if's clause has guards without a pattern, and no when.
func (w *writer) rest(n *api.Node) {
	if guards := n.Kids[1].Kids; len(guards) > 0 {
		if n.Text != "if" {
			w.put("when")
		}
		w.row(";", guards, w.body)
	}
	n.Text = ""
	w.put("->")
	w.body(&n.Kids[2])
}

func (w *writer) function(n *api.Node) {
	n.At = w.place()
	w.row(";", n.Kids, func(c *api.Node) {
		w.begin(c)
		w.put(quotedAs("'", n.Text))
		w.items("(", c.Kids[0].Kids, ")")
		w.rest(c)
	})
	w.put(".")
}

func (w *writer) module(n *api.Node) {
	for i := range n.Kids {
		w.function(&n.Kids[i])
	}
}

// maker makes trees, as deep as there is room, such as the grammar tells.
type maker struct {
	chance *rand.Rand
}

func (m *maker) one(texts ...string) string { return texts[m.chance.Intn(len(texts))] }

func (m *maker) atom() api.Node {
	return api.Node{Kind: api.NodeAtom, Text: m.one("a", "b", "", "a b", "if", "X", "'\\\"", "\x00\xff", "(", "end", "->", strings.Repeat("a", 40))}
}

func (m *maker) variable() api.Node {
	return api.Node{Kind: api.NodeVar, Text: m.one("X", "_", "_y@1", "Zz")}
}

func (m *maker) leaf() api.Node {
	switch m.chance.Intn(6) {
	case 0:
		return api.Node{Kind: api.NodeInt, Text: m.one("0", "42", "007", strings.Repeat("9", 400))}
	case 1:
		return api.Node{Kind: api.NodeText, Text: m.one("", "ab", "\x00\n\\\"'", "->")}
	case 2:
		return api.Node{Kind: api.NodeName, Text: m.one("f", "", "a b"), Num: m.chance.Intn(256)}
	case 3:
		return m.variable()
	default:
		return m.atom()
	}
}

// some is so many nodes at least, and a few more.
func some(m *maker, least int, each func() api.Node) []api.Node {
	var out []api.Node
	for range least + m.chance.Intn(3) {
		out = append(out, each())
	}
	return out
}

// item makes one that is at most so deep.
func (m *maker) item(room int) api.Node {
	if room < 6 || m.chance.Intn(10) == 0 {
		if room > 1 && m.chance.Intn(3) == 0 {
			return parent(api.NodeTuple, some(m, 0, m.leaf)...)
		}
		return m.leaf()
	}
	each := func() api.Node { return m.item(room - 1 - m.chance.Intn(3)) }
	switch m.chance.Intn(14) {
	case 0:
		return parent(api.NodeTuple, some(m, 0, each)...)
	case 1:
		return parent(api.NodeList, some(m, 0, each)...)
	case 2:
		n := parent(api.NodeList, some(m, 2, each)...)
		n.Num = 1
		return n
	case 3:
		return parent(api.NodeMatch, each(), each())
	case 4:
		n := parent(api.NodeOp, each())
		n.Text = m.one("-", "+", "not")
		return n
	case 5, 6, 7:
		n := parent(api.NodeOp, each(), each())
		n.Text = m.one("!", "orelse", "andalso", "==", "/=", "=:=", "=/=", "<", "=<", ">", ">=", "++", "--", "+", "-", "or", "xor", "*", "div", "rem", "and")
		return n
	case 8:
		return parent(api.NodeCall, some(m, 1, each)...)
	case 9:
		return parent(api.NodeComp, append([]api.Node{each()}, some(m, 1, func() api.Node {
			if m.chance.Intn(2) == 0 {
				return each()
			}
			return parent(api.NodeGen, m.item(room-2), m.item(room-2))
		})...)...)
	default:
		return m.claused(room)
	}
}

func (m *maker) claused(room int) api.Node {
	choice := func() api.Node { return m.clause(room-1, 0, m.item(room-3)) }
	switch m.chance.Intn(6) {
	case 0:
		return parent(api.NodeFun, some(m, 1, func() api.Node { return m.clause(room-1, 0, m.row(room-3)...) })...)
	case 1:
		return parent(api.NodeCase, append([]api.Node{m.item(room - 1)}, some(m, 1, choice)...)...)
	case 2:
		return parent(api.NodeIf, some(m, 1, func() api.Node {
			n := m.clause(room-1, 1)
			n.Text = "if" // for the writer, which takes it away
			return n
		})...)
	case 3:
		n := parent(api.NodeReceive, some(m, 1, choice)...)
		if m.chance.Intn(2) == 0 {
			n.Num = 1
			n.Kids = append(n.Kids[m.chance.Intn(2):], parent(api.NodeAfter, m.item(room-2), m.body(room-2)))
		}
		return n
	case 4:
		return parent(api.NodeTry, append([]api.Node{m.body(room - 1)}, some(m, 1, func() api.Node {
			class := m.atom()
			if m.chance.Intn(2) == 0 {
				class = m.variable()
			}
			return m.clause(room-1, 0, parent(api.NodeTuple, class, m.item(room-4)))
		})...)...)
	default:
		return m.body(room)
	}
}

func (m *maker) row(room int) []api.Node {
	return some(m, 0, func() api.Node { return m.item(room) })
}

func (m *maker) body(room int) api.Node {
	return parent(api.NodeBlock, some(m, 1, func() api.Node { return m.item(room - 1) })...)
}

func (m *maker) clause(room, guards int, patterns ...api.Node) api.Node {
	var row []api.Node
	if guards > 0 || m.chance.Intn(2) == 0 {
		row = some(m, guards, func() api.Node { return m.body(room - 2) })
	}
	return parent(api.NodeClause, parent(api.NodeBlock, patterns...), parent(api.NodeBlock, row...), m.body(room-1))
}

func (m *maker) module(room int) api.Node {
	return parent(api.NodeModule, some(m, 0, func() api.Node {
		n := parent(api.NodeFunction, some(m, 1, func() api.Node { return m.clause(room-2, 0, m.row(room-4)...) })...)
		n.Text, n.Num = m.atom().Text, len(n.Kids[0].Kids[0].Kids)
		return n
	})...)
}

// deepened is n within something, over and over, till it is so deep at least.
func (m *maker) deepened(n api.Node, deep int) api.Node {
	for node.Deep(n) < deep {
		clause := parent(api.NodeClause, parent(api.NodeBlock, m.leaf()), parent(api.NodeBlock), parent(api.NodeBlock, n))
		switch m.chance.Intn(9) {
		case 0:
			n = parent(api.NodeMatch, m.leaf(), n)
		case 1:
			n = api.Node{Kind: api.NodeOp, Text: m.one("!", "++", "+", "*", "=="), Kids: []api.Node{n, m.leaf()}}
		case 2:
			n = api.Node{Kind: api.NodeOp, Text: m.one("-", "not"), Kids: []api.Node{n}}
		case 3:
			n = parent(api.NodeCall, n)
		case 4:
			n = parent(api.NodeCase, m.leaf(), clause)
		case 5:
			n = parent(api.NodeFun, clause)
		case 6:
			n = parent(api.NodeReceive, parent(api.NodeAfter, m.leaf(), parent(api.NodeBlock, n)))
			n.Num = 1
		case 7:
			n = parent(api.NodeComp, m.leaf(), parent(api.NodeGen, m.leaf(), n))
		default:
			n = parent(api.NodeTuple, m.leaf(), n, m.leaf())
		}
	}
	return n
}

// limited is what must be told of a tree: the fault of one that is too deep or too many.
func limited(n api.Node) api.Fault {
	if at, found := fiftyAbove(n, nil); found {
		return api.Fault{Err: api.ErrDeep, At: at}
	}
	if howMany(n) > 16384 {
		return api.Fault{Err: api.ErrMany}
	}
	return api.Fault{}
}

// fiftyAbove goes through the tree as the chapter says, each node ahead of its kids.
func fiftyAbove(n api.Node, above []api.Node) (int, bool) {
	if len(above) == 50 {
		return n.At, true
	}
	for _, kid := range n.Kids {
		if at, found := fiftyAbove(kid, append(above, n)); found {
			return at, true
		}
	}
	return 0, false
}

func howMany(n api.Node) int {
	sum := 1
	for _, kid := range n.Kids {
		sum += howMany(kid)
	}
	return sum
}

// againstTree holds what is parsed of the text against the tree of which it was written; it says which fault there was.
func againstTree(t *testing.T, s string, n api.Node, parse func(string) (api.Node, api.Fault)) api.Errno {
	t.Helper()
	if len(s) > api.MaxSource {
		return api.ErrLong
	}
	want := limited(n)
	got, fault := parse(s)
	if fault != want {
		t.Fatalf("%s: %v, not %v", s, fault, want)
	}
	if fault != (api.Fault{}) {
		if !zero(got) {
			t.Fatalf("%s: %v, and a tree", s, fault)
		}
		return fault.Err
	}
	if !equal(got, n) {
		t.Fatalf("%s: %s, not %s", s, told(got), told(n))
	}
	if !node.Right(got) {
		t.Fatalf("%s: not right", s)
	}
	return api.OK
}

// P5.1, P5.2: items and modules by chance, places and all, with more brackets than they need.
func TestTreesByChance(t *testing.T) {
	chance := rand.New(rand.NewSource(5))
	m := &maker{chance}
	kinds, faults := map[api.NodeKind]int{}, map[api.Errno]int{}
	for i := range 4000 {
		w := &writer{chance: chance}
		room := chance.Intn(14)
		if i%4 == 0 {
			n := m.module(room + 4)
			n.At = 0
			w.module(&n)
			faults[againstTree(t, w.String(), n, parse.Module)]++
			count(n, kinds)
			continue
		}
		n := m.item(room)
		if i%16 == 1 {
			n = m.deepened(n, 40+chance.Intn(20))
		}
		w.any(&n)
		faults[againstTree(t, w.String(), n, parse.Expr)]++
		count(n, kinds)
	}
	for kind := api.NodeInt; kind <= api.NodeModule; kind++ {
		if kinds[kind] < 100 {
			t.Errorf("kind %d: %d times", kind, kinds[kind])
		}
	}
	if faults[api.OK] < 3000 || faults[api.ErrDeep] < 50 || faults[api.ErrLong] > 50 {
		t.Errorf("%v", faults)
	}
}

func count(n api.Node, kinds map[api.NodeKind]int) {
	kinds[n.Kind]++
	for _, kid := range n.Kids {
		count(kid, kinds)
	}
}
