package lint_test

import (
	"math/rand"
	"reflect"
	"strconv"
	"strings"
	"testing"

	"pigeonhole/api"
	"pigeonhole/lint"
	"pigeonhole/node"
	"pigeonhole/parse"
	"pigeonhole/show"
)

func of(kind api.NodeKind, kids ...api.Node) api.Node { return api.Node{Kind: kind, Kids: kids} }

func said(kind api.NodeKind, text string, kids ...api.Node) api.Node {
	return api.Node{Kind: kind, Text: text, Kids: kids}
}

var one = said(api.NodeInt, "1")

// maker makes modules by chance, right ones, most of them with faults.
type maker struct {
	chance *rand.Rand
}

func (m *maker) text(texts ...string) string { return texts[m.chance.Intn(len(texts))] }

// seldom holds once in so many times.
func (m *maker) seldom(times int) bool { return m.chance.Intn(times) == 0 }

func (m *maker) some(least, most int, each func() api.Node) []api.Node {
	var out []api.Node
	for range least + m.chance.Intn(most-least+1) {
		out = append(out, each())
	}
	return out
}

func (m *maker) variable() api.Node {
	if m.seldom(25) {
		return said(api.NodeVar, "_")
	}
	return said(api.NodeVar, m.text("X", "Y", "Z", "W"))
}

func (m *maker) leaf() api.Node {
	switch m.chance.Intn(8) {
	case 0:
		return one
	case 1:
		return said(api.NodeAtom, m.text("a", "f", "hd"))
	case 2:
		return said(api.NodeText, "t")
	case 3:
		name := said(api.NodeName, m.text("f", "f", "g", "hd"))
		name.Num = m.chance.Intn(2)
		return name
	default:
		return m.variable()
	}
}

// pattern is one mostly of what a pattern may have.
func (m *maker) pattern(room int) api.Node {
	each := func() api.Node { return m.pattern(room - 1) }
	switch {
	case m.seldom(60):
		return m.item(room)
	case room < 1 || m.seldom(2):
		return m.variable()
	}
	switch m.chance.Intn(6) {
	case 0:
		return of(api.NodeMatch, each(), each())
	case 1:
		return m.list(each)
	case 2:
		return said(api.NodeOp, "-", one)
	case 3:
		return one
	default:
		return of(api.NodeTuple, m.some(0, 3, each)...)
	}
}

func (m *maker) list(each func() api.Node) api.Node {
	n := of(api.NodeList, m.some(0, 3, each)...)
	if len(n.Kids) > 1 {
		n.Num = m.chance.Intn(2)
	}
	return n
}

// guard is one mostly of what a guard may have.
func (m *maker) guard(room int) api.Node {
	each := func() api.Node { return m.guard(room - 1) }
	switch {
	case m.seldom(30):
		return m.item(room)
	case room < 1:
		return m.variable()
	}
	switch m.chance.Intn(7) {
	case 0:
		return m.list(each)
	case 1:
		return of(api.NodeTuple, m.some(0, 2, each)...)
	case 2:
		return said(api.NodeOp, m.text("-", "+", "not"), each())
	case 3:
		return said(api.NodeOp, m.text("andalso", "orelse", "==", "=<", "+", "and", "div", "xor", "!", "--"), each(), each())
	case 4:
		return of(api.NodeCall, append([]api.Node{said(api.NodeAtom, m.text("hd", "abs", "is_function", "length", "reverse", "f"))}, m.some(1, 1, each)...)...)
	default:
		return m.variable()
	}
}

func (m *maker) body(room int) api.Node {
	return of(api.NodeBlock, m.some(1, 4, func() api.Node { return m.bodyItem(room - 1) })...)
}

func (m *maker) bodyItem(room int) api.Node {
	if m.seldom(2) {
		return of(api.NodeMatch, m.pattern(2), m.bodyItem(room-1))
	}
	return m.item(room)
}

func (m *maker) clause(room, guards int, patterns ...api.Node) api.Node {
	rows := m.some(guards, guards+1, func() api.Node {
		return of(api.NodeBlock, m.some(1, 2, func() api.Node { return m.guard(2) })...)
	})
	return of(api.NodeClause, of(api.NodeBlock, patterns...), of(api.NodeBlock, rows...), m.body(room))
}

// heads is clauses that have mostly the same number of patterns.
func (m *maker) heads(room int) []api.Node {
	arity := m.chance.Intn(3)
	if m.seldom(20) {
		arity = 11 + m.chance.Intn(4)
	}
	return m.some(1, 3, func() api.Node {
		own := arity
		if m.seldom(20) {
			own = m.chance.Intn(15)
		}
		return m.clause(room, 0, m.some(own, own, func() api.Node { return m.pattern(1) })...)
	})
}

func (m *maker) item(room int) api.Node {
	if room < 1 || m.seldom(4) {
		return m.leaf()
	}
	each := func() api.Node { return m.item(room - 1) }
	switch m.chance.Intn(13) {
	case 0:
		return of(api.NodeTuple, m.some(0, 3, each)...)
	case 1:
		return m.list(each)
	case 2:
		return said(api.NodeOp, m.text("-", "+", "not"), each())
	case 3:
		return said(api.NodeOp, m.text("!", "orelse", "andalso", "==", "++", "+", "div"), each(), each())
	case 4:
		if m.seldom(8) {
			return of(api.NodeMatch, m.pattern(1), each())
		}
		return of(api.NodeBlock, each())
	case 5, 6:
		return m.call(each)
	case 7:
		return m.comprehension(room)
	default:
		return m.claused(room)
	}
}

func (m *maker) call(each func() api.Node) api.Node {
	arguments := m.some(0, 2, each)
	if m.seldom(15) {
		arguments = m.some(11, 14, func() api.Node { return one })
	}
	what := said(api.NodeAtom, m.text("f", "f", "g", "hd", "self", "print", "exit"))
	if m.seldom(3) {
		what = each()
	}
	return of(api.NodeCall, append([]api.Node{what}, arguments...)...)
}

func (m *maker) comprehension(room int) api.Node {
	kids := m.some(1, 3, func() api.Node {
		if m.seldom(3) {
			return m.item(room - 1)
		}
		return of(api.NodeGen, m.pattern(1), m.item(room-1))
	})
	return of(api.NodeComp, append([]api.Node{m.item(room - 1)}, kids...)...)
}

func (m *maker) claused(room int) api.Node {
	choices := func(least int) []api.Node {
		return m.some(least, 3, func() api.Node { return m.clause(room-1, 0, m.pattern(2)) })
	}
	switch m.chance.Intn(7) {
	case 0:
		return of(api.NodeFun, m.heads(room-1)...)
	case 1:
		return of(api.NodeIf, m.some(1, 2, func() api.Node { return m.clause(room-1, 1) })...)
	case 2:
		late := of(api.NodeAfter, m.item(room-1), m.body(room-1))
		n := of(api.NodeReceive, append(choices(0), late)...)
		n.Num = 1
		return n
	case 3:
		return of(api.NodeReceive, choices(1)...)
	case 4:
		clauses := m.some(1, 2, func() api.Node {
			class := said(api.NodeAtom, "error")
			if m.seldom(2) {
				class = m.variable()
			}
			return m.clause(room-1, 0, of(api.NodeTuple, class, m.pattern(1)))
		})
		return of(api.NodeTry, append([]api.Node{m.body(room - 1)}, clauses...)...)
	case 5:
		return m.body(room - 1)
	default:
		return of(api.NodeCase, append([]api.Node{m.item(room - 1)}, choices(1)...)...)
	}
}

func (m *maker) module(room int) api.Node {
	return of(api.NodeModule, m.some(0, 3, func() api.Node {
		f := said(api.NodeFunction, m.text("f", "g", "h", "i", "j", "k", "hd"), m.heads(room)...)
		f.Num = len(f.Kids[0].Kids[0].Kids)
		return f
	})...)
}

// visit goes through n and all that is in it, each ahead of its kids.
func visit(n *api.Node, do func(n *api.Node)) {
	do(n)
	for i := range n.Kids {
		visit(&n.Kids[i], do)
	}
}

// copied is n in new memory.
func copied(n api.Node) api.Node {
	kids := n.Kids
	n.Kids = nil
	for _, kid := range kids {
		n.Kids = append(n.Kids, copied(kid))
	}
	return n
}

// placed is n with places of which no two are the same, in no order.
func placed(n api.Node, chance *rand.Rand) api.Node {
	n = copied(n)
	count := 0
	visit(&n, func(*api.Node) { count++ })
	places := chance.Perm(count)
	visit(&n, func(n *api.Node) {
		n.At, places = places[0]+1, places[1:]
	})
	return n
}

// mend takes one fault away.
func mend(m *api.Node, fault api.Fault) {
	visit(m, func(n *api.Node) {
		switch {
		case n.At == fault.At && n.Kind == api.NodeFunction:
			n.Text = "f" + strconv.Itoa(n.At)
		case n.At == fault.At && n.Kind != api.NodeClause:
			*n = api.Node{Kind: api.NodeInt, Text: "1", At: n.At}
		case n.Kind == api.NodeFunction:
			mendHeads(n.Kids, fault)
			n.Num = len(n.Kids[0].Kids[0].Kids)
		case n.Kind == api.NodeFun:
			mendHeads(n.Kids, fault)
		}
	})
}

// mendHeads gives a clause as many patterns as the first one has, and that one as many as may be.
func mendHeads(clauses []api.Node, fault api.Fault) {
	first := &clauses[0].Kids[0]
	if clauses[0].At == fault.At {
		first.Kids = first.Kids[:12]
	}
	for i := range clauses {
		if clauses[i].At == fault.At {
			clauses[i].Kids[0].Kids = copied(*first).Kids
		}
	}
}

// P7.2: modules by chance; each is held against the chapter's words, then its fault is taken away, till there is none.
// P7.3: of each, variables by other names, and without functions that nothing calls.
func TestByChance(t *testing.T) {
	m := &maker{rand.New(rand.NewSource(7))}
	faults := map[api.Errno]int{}
	programs := 0
	for i := range 1000 {
		n := placed(m.module(2+i%4), m.chance)
		if !node.Right(n) {
			t.Fatalf("%v", n)
		}
		for {
			want := checkByWords(n)
			if got := lint.Check(n); got != want {
				t.Fatalf("%s: %v, not %v", source(n), got, want)
			}
			if m.seldom(3) || want.Err == api.OK {
				renamed(t, n, want, m.chance)
			}
			faults[want.Err]++
			if want.Err == api.OK {
				break
			}
			mend(&n, want)
		}
		programs += withoutOne(t, n)
	}
	for _, err := range []api.Errno{api.OK, api.ErrTwice, api.ErrArity, api.ErrFree, api.ErrUnsafe, api.ErrGuard, api.ErrCall, api.ErrPattern, api.ErrMany} {
		if faults[err] < 50 {
			t.Errorf("%v: %d times", err, faults[err])
		}
	}
	if programs < 500 {
		t.Errorf("%d functions that nothing calls", programs)
	}
}

func source(n api.Node) string {
	s, _ := show.Module(n)
	return s
}

// renamed asks that other names for variables make no difference.
func renamed(t *testing.T, n api.Node, want api.Fault, chance *rand.Rand) {
	t.Helper()
	names := []string{"X", "Y", "Z", "W"}
	for _, others := range [][]string{{"_X", "__", "_1", "Zz@9_" + strings.Repeat("a", 35)}, {"Y", "Z", "W", "X"}} {
		order := chance.Perm(len(names))
		other := copied(n)
		visit(&other, func(n *api.Node) {
			for i, name := range names {
				if n.Kind == api.NodeVar && n.Text == name {
					n.Text = others[order[i]]
					break
				}
			}
		})
		if got := lint.Check(other); got != want {
			t.Fatalf("%s: %v, not %v, as of %s", source(other), got, want, source(n))
		}
	}
}

// withoutOne asks that a program without one of its functions that nothing calls is one still; it says how many these are.
func withoutOne(t *testing.T, n api.Node) int {
	t.Helper()
	found := 0
	for i, f := range n.Kids {
		rest := append(n.Kids[:i:i], n.Kids[i+1:]...)
		smaller := of(api.NodeModule, rest...)
		wanted := false
		visit(&smaller, func(n *api.Node) {
			byName := n.Kind == api.NodeName && n.Text == f.Text && n.Num == f.Num
			byCall := n.Kind == api.NodeCall && n.Kids[0].Kind == api.NodeAtom && n.Kids[0].Text == f.Text && len(n.Kids)-1 == f.Num
			wanted = wanted || byName || byCall
		})
		fault := lint.Check(smaller)
		if !wanted && fault != (api.Fault{}) || wanted && fault.Err != api.ErrCall {
			t.Fatalf("%s: without %s/%d: %v", source(n), f.Text, f.Num, fault)
		}
		if !wanted {
			found++
		}
	}
	return found
}

// R3, R4: nothing of the tree is changed, and the answer is the same each time.
func TestAnswersAreAlike(t *testing.T) {
	m := &maker{rand.New(rand.NewSource(8))}
	for i := range 300 {
		n := placed(m.module(2+i%4), m.chance)
		before := copied(n)
		fault := lint.Check(n)
		for range 3 {
			if again := lint.Check(n); again != fault {
				t.Fatalf("%s: %v, then %v", source(n), fault, again)
			}
		}
		if !reflect.DeepEqual(n, before) {
			t.Fatalf("%s: the tree is another", source(before))
		}
	}
}

// P7.2: any source that is parsed is checked as the chapter's words have it.
func FuzzSources(f *testing.F) {
	for _, s := range []string{"", "f(X) -> Y.", "f(X) -> case X of 1 -> Y = 2; _ -> 3 end, Y.", "f() -> receive X -> fun (X) when X -> [X || X <- Y, X] end after X -> X end.", "f() -> try X = 1 catch Y : Z -> begin W = X end end, W."} {
		f.Add(s)
	}
	f.Fuzz(func(t *testing.T, s string) {
		m, fault := parse.Module(s)
		if fault.Err != api.OK {
			return
		}
		if got, want := lint.Check(m), checkByWords(m); got != want {
			t.Fatalf("%s: %v, not %v", s, got, want)
		}
	})
}
