package show_test

import (
	"fmt"
	"math/rand"
	"regexp"
	"slices"
	"strings"
	"testing"

	"pigeonhole/api"
	"pigeonhole/node"
	"pigeonhole/parse"
)

// The chapter's table once more, row by row, to be held against the program.

var strengths = [][]string{
	2: {"!"}, 3: {"orelse"}, 4: {"andalso"}, 5: {"==", "/=", "=:=", "=/=", "<", "=<", ">", ">="}, 6: {"++", "--"}, 7: {"+", "-", "or", "xor"}, 8: {"*", "div", "rem", "and"},
}

func strengthOf(n api.Node) int {
	switch {
	case n.Kind == api.NodeMatch:
		return 1
	case n.Kind == api.NodeOp && len(n.Kids) == 1:
		return 9
	case n.Kind == api.NodeOp:
		for strength, signs := range strengths {
			for _, sign := range signs {
				if sign == n.Text {
					return strength
				}
			}
		}
	}
	return 10
}

var plainAtom = regexp.MustCompile(`^[a-z][a-zA-Z0-9_@]*$`)

func inQuotes(quote, s string) string {
	var out string
	for i := range len(s) {
		if s[i] == quote[0] {
			out += `\`
		}
		out += between(s[i])
	}
	return quote + out + quote
}

func nameOf(s string) string {
	if plainAtom.MatchString(s) && !strings.Contains(" "+words+" ", " "+s+" ") {
		return s
	}
	return inQuotes("'", s)
}

// at is an item's text where that strength is asked for.
func at(strength int, n api.Node) string {
	if strengthOf(n) < strength {
		return "(" + byTable(n) + ")"
	}
	return byTable(n)
}

func rowOf(sign string, row []api.Node, each func(n api.Node) string) string {
	var texts []string
	for _, n := range row {
		texts = append(texts, each(n))
	}
	return strings.Join(texts, sign)
}

// blanked is those of the texts that have something, with one blank between.
func blanked(texts ...string) string {
	return strings.Join(slices.DeleteFunc(texts, func(s string) bool { return s == "" }), " ")
}

func itemsOf(n api.Node) string { return rowOf(", ", n.Kids, byTable) }

func guardsOf(clause api.Node) string { return rowOf("; ", clause.Kids[1].Kids, itemsOf) }

// behind is a clause's text behind its patterns.
func behind(clause api.Node) string {
	guards := guardsOf(clause)
	if guards != "" {
		guards = " when " + guards
	}
	return guards + " -> " + itemsOf(clause.Kids[2])
}

func headed(clause api.Node) string { return "(" + itemsOf(clause.Kids[0]) + ")" + behind(clause) }

func chosen(clause api.Node) string { return itemsOf(clause.Kids[0]) + behind(clause) }

func byTable(n api.Node) string {
	kids := n.Kids
	switch n.Kind {
	case api.NodeInt, api.NodeVar:
		return n.Text
	case api.NodeAtom:
		return nameOf(n.Text)
	case api.NodeText:
		return inQuotes(`"`, n.Text)
	case api.NodeTuple:
		return "{" + itemsOf(n) + "}"
	case api.NodeList:
		if n.Num == 1 {
			last := len(kids) - 1
			return fmt.Sprintf("[%s | %s]", rowOf(", ", kids[:last], byTable), byTable(kids[last]))
		}
		return "[" + itemsOf(n) + "]"
	case api.NodeMatch:
		return at(2, kids[0]) + " = " + at(1, kids[1])
	case api.NodeOp:
		return operationOf(n)
	case api.NodeCall:
		return fmt.Sprintf("%s(%s)", at(10, kids[0]), rowOf(", ", kids[1:], byTable))
	case api.NodeName:
		return fmt.Sprintf("fun %s/%d", nameOf(n.Text), n.Num)
	case api.NodeFun:
		return fmt.Sprintf("fun %s end", rowOf("; ", kids, headed))
	case api.NodeCase:
		return fmt.Sprintf("case %s of %s end", byTable(kids[0]), rowOf("; ", kids[1:], chosen))
	case api.NodeIf:
		return fmt.Sprintf("if %s end", rowOf("; ", kids, func(c api.Node) string { return guardsOf(c) + " -> " + itemsOf(c.Kids[2]) }))
	case api.NodeReceive:
		return blanked("receive", rowOf("; ", kids[:len(kids)-n.Num], chosen), rowOf("", kids[len(kids)-n.Num:], byTable), "end")
	case api.NodeAfter:
		return fmt.Sprintf("after %s -> %s", byTable(kids[0]), itemsOf(kids[1]))
	case api.NodeTry:
		return fmt.Sprintf("try %s catch %s end", itemsOf(kids[0]), rowOf("; ", kids[1:], func(c api.Node) string {
			return rowOf(" : ", c.Kids[0].Kids[0].Kids, byTable) + behind(c)
		}))
	case api.NodeComp:
		return fmt.Sprintf("[%s || %s]", byTable(kids[0]), rowOf(", ", kids[1:], byTable))
	case api.NodeGen:
		return rowOf(" <- ", kids, byTable)
	case api.NodeBlock:
		return fmt.Sprintf("begin %s end", itemsOf(n))
	case api.NodeFunction:
		return rowOf("; ", kids, func(c api.Node) string { return nameOf(n.Text) + headed(c) }) + ".\n"
	default:
		return rowOf("", kids, byTable)
	}
}

func operationOf(n api.Node) string {
	own := strengthOf(n)
	switch own {
	case 9:
		x := at(9, n.Kids[0])
		if n.Text == "not" || x[0] == '-' || x[0] == '+' {
			return n.Text + " " + x
		}
		return n.Text + x
	case 2, 6:
		return at(own+1, n.Kids[0]) + " " + n.Text + " " + at(own, n.Kids[1])
	case 5:
		return at(own+1, n.Kids[0]) + " " + n.Text + " " + at(own+1, n.Kids[1])
	default:
		return at(own, n.Kids[0]) + " " + n.Text + " " + at(own+1, n.Kids[1])
	}
}

// maker makes right trees by chance, as deep as there is room.
type maker struct{ *rand.Rand }

func (m maker) one(texts ...string) string { return texts[m.Intn(len(texts))] }

func (m maker) name() string {
	return m.one("a", "b", "f", "", "a  b", "if", "X", "'", "\\\"", "\x00\xff", "(", "end", "->", "-", "+1", "\n", strings.Repeat("a", 40))
}

func (m maker) leaf() api.Node {
	switch m.Intn(6) {
	case 0:
		return whole(m.one("0", "42", "007", "123456789012345678901234567890"))
	case 1:
		return text(m.one("", "a  b", "\x00\n\\\"'", "->", "\x7f~", "\\n"))
	case 2:
		return named(m.name(), m.Intn(256))
	case 3:
		return variable(m.one("X", "_", "_y@1", "Zz"))
	default:
		return atom(m.name())
	}
}

// some is so many nodes at least, and a few more.
func (m maker) some(least int, each func() api.Node) []api.Node {
	out := make([]api.Node, least+m.Intn(3))
	for i := range out {
		out[i] = each()
	}
	return out
}

func (m maker) item(room int) api.Node {
	if room < 1 || m.Intn(8) == 0 {
		return m.leaf()
	}
	each := func() api.Node { return m.item(room - 1 - m.Intn(2)) }
	switch m.Intn(15) {
	case 0:
		return tuple(m.some(0, each)...)
	case 1:
		return list(m.some(0, each)...)
	case 2:
		return tailed(m.some(2, each)...)
	case 3:
		return match(each(), each())
	case 4, 5:
		return op(m.one(strings.Fields(signsAhead)...), each())
	case 6, 7, 8:
		return op(m.one(strings.Fields(signsBetween)[1:]...), each(), each())
	case 9:
		return call(m.some(1, each)...)
	case 10:
		return comp(append(row(each()), m.some(1, func() api.Node {
			if m.Intn(2) == 0 {
				return each()
			}
			return gen(each(), each())
		})...)...)
	default:
		return m.claused(each)
	}
}

func (m maker) claused(each func() api.Node) api.Node {
	choose := func() api.Node { return clause(row(each()), m.guards(0, each), m.some(1, each)) }
	switch m.Intn(7) {
	case 0:
		return fun(m.some(1, func() api.Node { return m.headed(each) })...)
	case 1:
		return choice(append(row(each()), m.some(1, choose)...)...)
	case 2:
		return iffy(m.some(1, func() api.Node { return clause(nil, m.guards(1, each), m.some(1, each)) })...)
	case 3:
		return receive(m.some(1, choose)...)
	case 4:
		return timed(append(m.some(0, choose), after(each(), m.some(1, each)...))...)
	case 5:
		return try(append(row(block(m.some(1, each)...)), m.some(1, func() api.Node {
			class := atom(m.name())
			if m.Intn(2) == 0 {
				class = x
			}
			return clause(row(tuple(class, each())), m.guards(0, each), m.some(1, each))
		})...)...)
	default:
		return block(m.some(1, each)...)
	}
}

func (m maker) guards(least int, each func() api.Node) []api.Node {
	if least == 0 && m.Intn(2) == 0 {
		return nil
	}
	return m.some(least, func() api.Node { return block(m.some(1, each)...) })
}

func (m maker) headed(each func() api.Node) api.Node {
	return clause(m.some(0, each), m.guards(0, each), m.some(1, each))
}

func (m maker) module(room int) api.Node {
	return module(m.some(0, func() api.Node {
		return function(m.name(), m.some(1, func() api.Node {
			return m.headed(func() api.Node { return m.item(room) })
		})...)
	})...)
}

// tree is an item or a module.
func (m maker) tree() api.Node {
	if m.Intn(4) == 0 {
		return m.module(m.Intn(5))
	}
	return m.item(m.Intn(8))
}

func each(n *api.Node, look func(n *api.Node)) {
	look(n)
	for i := range n.Kids {
		each(&n.Kids[i], look)
	}
}

func copied(n api.Node) api.Node {
	if n.Kids != nil {
		kids := make([]api.Node, len(n.Kids))
		for i := range kids {
			kids[i] = copied(n.Kids[i])
		}
		n.Kids = kids
	}
	return n
}

// P6.1, P6.2: trees by chance are shown as the table says, whatever their places, and parsed again.
func TestTreesByChance(t *testing.T) {
	m := maker{rand.New(rand.NewSource(6))}
	kinds, long := map[api.NodeKind]int{}, 0
	for range 4000 {
		n := m.tree()
		if !node.Right(n) {
			t.Fatalf("%v is not right", n)
		}
		want := byTable(n)
		is(t, n, want)
		moved := copied(n)
		each(&moved, func(n *api.Node) {
			kinds[n.Kind]++
			n.At = m.Intn(1000)
		})
		is(t, moved, want)
		if len(want) > 500 {
			long++
		}
		if t.Failed() {
			break
		}
	}
	for kind := api.NodeInt; kind <= api.NodeModule; kind++ {
		if kinds[kind] < 300 {
			t.Errorf("kind %d: %d times", kind, kinds[kind])
		}
	}
	if long < 200 {
		t.Errorf("%d long ones", long)
	}
}

// P6.2: trees that are not the same are not shown alike.
func TestUnlikeTrees(t *testing.T) {
	m := maker{rand.New(rand.NewSource(7))}
	first := map[string]api.Node{}
	for range 4000 {
		n := m.tree()
		s := fmt.Sprint(n.Kind == api.NodeModule, shown(t, n))
		if other, met := first[s]; met && !node.Same(n, other) {
			t.Errorf("%s: of two trees", s)
		}
		first[s] = n
	}
}

// spoil changes one field of one node of the tree.
func (m maker) spoil(n *api.Node) {
	var all []*api.Node
	each(n, func(n *api.Node) { all = append(all, n) })
	hit := all[m.Intn(len(all))]
	switch m.Intn(7) {
	case 0:
		hit.Kind = api.NodeKind(m.Intn(26))
	case 1:
		hit.Text = m.one("", "x", "X", "-", "!", "and", "12", strings.Repeat("A", 41))
	case 2:
		hit.Num = m.Intn(4) - 1
	case 3:
		hit.At = -1
	case 4:
		hit.Kids = nil
	case 5:
		hit.Kids = append(hit.Kids, m.leaf())
	default:
		if len(hit.Kids) > 0 {
			i := m.Intn(len(hit.Kids))
			hit.Kids = append(hit.Kids[:i:i], hit.Kids[i+1:]...)
		}
	}
}

// P6.1: trees that are spoilt have a text just if they are right still.
func TestSpoiltTrees(t *testing.T) {
	m := maker{rand.New(rand.NewSource(8))}
	wrong := 0
	for range 20000 {
		n := copied(m.tree())
		for range 1 + m.Intn(2) {
			m.spoil(&n)
		}
		against(t, n)
		if !node.Right(n) {
			wrong++
		}
		if t.Failed() {
			break
		}
	}
	if wrong < 5000 {
		t.Errorf("%d wrong ones", wrong)
	}
}

// against holds what is told of any tree against the words of the chapter.
func against(t *testing.T, n api.Node) {
	t.Helper()
	if !node.Right(n) {
		none(t, "not right", n)
		return
	}
	s := shown(t, n)
	again(t, n, s)
}

// R1, P6.1, P6.2: whatever can be parsed is shown, so that it is parsed as the same, and shown alike again.
func FuzzSources(f *testing.F) {
	for _, s := range []string{"(1+2)*X", "- -a", "[a,b|c]", "fun(X)when a;b,c->d;()->e end", "receive X->a;Y->b after 1->c end", "try a catch b:c->d end", "f()->a;f(X)when b->{}.", "'\\x00'(\"\\n\")"} {
		f.Add(s)
	}
	f.Fuzz(func(t *testing.T, s string) {
		if n, fault := parse.Expr(s); fault == (api.Fault{}) {
			against(t, n)
		}
		if n, fault := parse.Module(s); fault == (api.Fault{}) {
			against(t, n)
		}
	})
}

// R1: any nodes have an answer.
func FuzzTrees(f *testing.F) {
	f.Add([]byte{5, 0, 0, 2, 1, 0, 1, 0, 3, 2, 0, 0})
	f.Add([]byte{7, 1, 0, 2, 1, 0, 1, 0, 3, 2, 0, 0})
	f.Fuzz(func(t *testing.T, s []byte) {
		n, _ := grown(s, 0)
		against(t, n)
	})
}

// grown makes a tree out of bytes: a kind, a text, a number, how many kids.
func grown(s []byte, deep int) (api.Node, []byte) {
	if len(s) < 4 {
		return api.Node{}, nil
	}
	texts := []string{"a", "-", "X", "1", "", "and", "if", "\x00", "not", "'"}
	n := api.Node{Kind: api.NodeKind(s[0] % 25), Text: texts[int(s[1])%len(texts)], Num: int(s[2]%5) - 1}
	kids := int(s[3] % 5)
	s = s[4:]
	for range kids {
		if deep == 60 || len(s) == 0 {
			break
		}
		var kid api.Node
		kid, s = grown(s, deep+1)
		n.Kids = append(n.Kids, kid)
	}
	return n, s
}
