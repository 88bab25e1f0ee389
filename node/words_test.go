package node_test

import (
	"math/rand"
	"regexp"
	"strings"
	"testing"

	"pigeonhole/api"
	"pigeonhole/node"
)

// The chapter's section Words once more, sentence by sentence, to be held against the program.

var (
	digitsShape   = regexp.MustCompile(`^[0-9]{1,400}$`)
	variableShape = regexp.MustCompile(`^[A-Z_][a-zA-Z0-9_@]{0,39}$`)
	aheadShape    = regexp.MustCompile(`^(-|\+|not)$`)
	betweenShape  = regexp.MustCompile(`^(!|orelse|andalso|==|/=|=:=|=/=|<|=<|>|>=|\+\+|--|\+|-|or|xor|\*|div|rem|and)$`)
)

// bare says whether n has neither a Text nor a Num, and an At from 0 on.
func bare(n api.Node) bool { return n.Text == "" && n.Num == 0 && n.At >= 0 }

func every(row []api.Node, holds func(n api.Node) bool) bool {
	for _, n := range row {
		if !holds(n) {
			return false
		}
	}
	return true
}

func isItem(n api.Node) bool {
	kids := len(n.Kids)
	leaf := kids == 0 && n.At >= 0
	items := every(n.Kids, isItem)
	switch n.Kind {
	case api.NodeInt:
		return leaf && n.Num == 0 && digitsShape.MatchString(n.Text)
	case api.NodeAtom:
		return leaf && n.Num == 0 && len(n.Text) <= 40
	case api.NodeVar:
		return leaf && n.Num == 0 && variableShape.MatchString(n.Text)
	case api.NodeText:
		return leaf && n.Num == 0 && len(n.Text) <= 400
	case api.NodeTuple:
		return bare(n) && items
	case api.NodeList:
		return n.Text == "" && n.At >= 0 && items && (n.Num == 0 || n.Num == 1 && kids > 1)
	case api.NodeOp:
		return n.Num == 0 && n.At >= 0 && items && (kids == 1 && aheadShape.MatchString(n.Text) || kids == 2 && betweenShape.MatchString(n.Text))
	case api.NodeMatch:
		return bare(n) && items && kids == 2
	case api.NodeCall:
		return bare(n) && items && kids > 0
	case api.NodeName:
		return leaf && len(n.Text) <= 40 && n.Num >= 0 && n.Num < 256
	case api.NodeBlock:
		return isBody(n)
	default:
		return isClausedItem(n)
	}
}

func isClausedItem(n api.Node) bool {
	kids := len(n.Kids)
	switch n.Kind {
	case api.NodeFun:
		return bare(n) && kids > 0 && every(n.Kids, isClause)
	case api.NodeCase:
		return bare(n) && kids > 1 && isItem(n.Kids[0]) && every(n.Kids[1:], isChoice)
	case api.NodeIf:
		return bare(n) && kids > 0 && every(n.Kids, func(c api.Node) bool {
			return isClause(c) && len(c.Kids[0].Kids) == 0 && len(c.Kids[1].Kids) > 0
		})
	case api.NodeReceive:
		clauses := n.Kids
		if n.Num == 1 && kids > 0 {
			clauses = n.Kids[:kids-1]
			last := n.Kids[kids-1]
			if last.Kind != api.NodeAfter || !bare(last) || len(last.Kids) != 2 || !isItem(last.Kids[0]) || !isBody(last.Kids[1]) {
				return false
			}
		}
		return n.Text == "" && n.At >= 0 && (n.Num == 0 || n.Num == 1) && kids > 0 && every(clauses, isChoice)
	case api.NodeTry:
		return bare(n) && kids > 1 && isBody(n.Kids[0]) && every(n.Kids[1:], isCaught)
	case api.NodeComp:
		return bare(n) && kids > 1 && isItem(n.Kids[0]) && every(n.Kids[1:], func(k api.Node) bool {
			return isItem(k) || k.Kind == api.NodeGen && bare(k) && len(k.Kids) == 2 && every(k.Kids, isItem)
		})
	default:
		return false
	}
}

func isBody(n api.Node) bool {
	return n.Kind == api.NodeBlock && bare(n) && len(n.Kids) > 0 && every(n.Kids, isItem)
}

func isClause(n api.Node) bool {
	if n.Kind != api.NodeClause || !bare(n) || len(n.Kids) != 3 {
		return false
	}
	patterns, guards := n.Kids[0], n.Kids[1]
	return patterns.Kind == api.NodeBlock && bare(patterns) && every(patterns.Kids, isItem) &&
		guards.Kind == api.NodeBlock && bare(guards) && every(guards.Kids, isBody) && isBody(n.Kids[2])
}

func isChoice(n api.Node) bool { return isClause(n) && len(n.Kids[0].Kids) == 1 }

func isCaught(n api.Node) bool {
	if !isChoice(n) {
		return false
	}
	pattern := n.Kids[0].Kids[0]
	return pattern.Kind == api.NodeTuple && len(pattern.Kids) == 2 && (pattern.Kids[0].Kind == api.NodeAtom || pattern.Kids[0].Kind == api.NodeVar)
}

func isModule(n api.Node) bool {
	return n.Kind == api.NodeModule && bare(n) && every(n.Kids, func(f api.Node) bool {
		return f.Kind == api.NodeFunction && len(f.Text) <= 40 && f.At >= 0 && len(f.Kids) > 0 && every(f.Kids, isClause) && f.Num == len(f.Kids[0].Kids[0].Kids)
	})
}

func howDeep(n api.Node) int {
	most := 0
	for _, kid := range n.Kids {
		most = max(most, howDeep(kid))
	}
	return most + 1
}

func howMany(n api.Node) int {
	sum := 1
	for _, kid := range n.Kids {
		sum += howMany(kid)
	}
	return sum
}

func isWithin(n api.Node) bool { return howDeep(n) <= 50 && howMany(n) <= 16384 }

func isPattern(n api.Node) bool {
	if n.Kind == api.NodeOp {
		return n.Text == "-" && len(n.Kids) == 1 && n.Kids[0].Kind == api.NodeInt
	}
	return n.Kind >= api.NodeInt && n.Kind <= api.NodeList && every(n.Kids, isPattern) || n.Kind == api.NodeMatch && every(n.Kids, isPattern)
}

func isGuard(n api.Node) bool {
	mayBe := n.Kind >= api.NodeInt && n.Kind <= api.NodeList ||
		n.Kind == api.NodeOp && !strings.Contains(" ! ++ -- ", " "+n.Text+" ") ||
		n.Kind == api.NodeCall && n.Kids[0].Kind == api.NodeAtom
	return mayBe && every(n.Kids, isGuard)
}

// againstWords holds the program's answers for n against the section's.
func againstWords(t *testing.T, n api.Node) {
	t.Helper()
	right := isWithin(n) && (isItem(n) || isModule(n))
	item := isWithin(n) && isItem(n)
	if node.Right(n) != right {
		t.Fatalf("Right of %v: %t", n, !right)
	}
	if want := item && isPattern(n); node.Pattern(n) != want {
		t.Fatalf("Pattern of %v: %t", n, !want)
	}
	if want := item && isGuard(n); node.Guard(n) != want {
		t.Fatalf("Guard of %v: %t", n, !want)
	}
	if got, want := node.Deep(n), howDeep(n); got != want {
		t.Fatalf("Deep of %v: %d, not %d", n, got, want)
	}
}

// maker makes trees by chance, right ones, till it has no room left to go deeper.
type maker struct {
	chance *rand.Rand
	room   int
}

func (m *maker) one(texts ...string) string { return texts[m.chance.Intn(len(texts))] }

func (m *maker) leaf() api.Node {
	switch m.chance.Intn(5) {
	case 0:
		return num(m.one("0", "42", "99999999999"))
	case 1:
		return atom(m.one("a", "", "a b", "if"))
	case 2:
		return text(m.one("", "ab", "\x00"))
	case 3:
		return named(m.one("f", ""), m.chance.Intn(256))
	default:
		return variable(m.one("X", "_", "_y@1"))
	}
}

// row is at least so many of what is made.
func (m *maker) row(least int, made func() api.Node) []api.Node {
	var out []api.Node
	for range least + m.chance.Intn(3) {
		out = append(out, made())
	}
	return out
}

func (m *maker) item() api.Node {
	if m.room == 0 || m.chance.Intn(3) == 0 {
		return m.leaf()
	}
	m.room--
	defer func() { m.room++ }()
	switch m.chance.Intn(14) {
	case 0:
		return tuple(m.row(0, m.item)...)
	case 1:
		return list(m.row(0, m.item)...)
	case 2:
		return tailed(m.row(2, m.item)...)
	case 3:
		return op(m.one("-", "+", "not"), m.item())
	case 4:
		return op(m.one("!", "orelse", "=<", "++", "--", "-", "and"), m.item(), m.item())
	case 5:
		return match(m.item(), m.item())
	case 6:
		return call(m.row(1, m.item)...)
	case 7:
		return fun(m.row(1, func() api.Node { return m.clause(0, m.row(0, m.item)...) })...)
	case 8:
		return choose(append([]api.Node{m.item()}, m.row(1, m.choice)...)...)
	case 9:
		return iffy(m.row(1, func() api.Node { return m.clause(1) })...)
	case 10:
		return receive(m.row(1, m.choice)...)
	case 11:
		return timed(append(m.row(0, m.choice), after(m.item(), m.body()))...)
	case 12:
		return try(append([]api.Node{m.body()}, m.row(1, m.caught)...)...)
	default:
		return comp(append([]api.Node{m.item()}, m.row(1, m.step)...)...)
	}
}

func (m *maker) body() api.Node { return block(m.row(1, m.item)...) }

func (m *maker) clause(guards int, patterns ...api.Node) api.Node {
	return of(api.NodeClause, block(patterns...), block(m.row(guards, m.body)...), m.body())
}

func (m *maker) choice() api.Node { return m.clause(0, m.item()) }

func (m *maker) caught() api.Node {
	class := atom("error")
	if m.chance.Intn(2) == 0 {
		class = variable("_")
	}
	return m.clause(0, tuple(class, m.item()))
}

func (m *maker) step() api.Node {
	if m.chance.Intn(2) == 0 {
		return gen(m.item(), m.item())
	}
	return m.item()
}

func (m *maker) module() api.Node {
	return module(m.row(0, func() api.Node {
		return function(m.one("f", ""), m.row(1, func() api.Node { return m.clause(0, m.row(0, m.item)...) })...)
	})...)
}

// spoil changes one node of n, by chance; what comes of it may be right still.
func (m *maker) spoil(n *api.Node) {
	var within []*api.Node
	eachNode(n, func(n *api.Node) { within = append(within, n) })
	one, other := within[m.chance.Intn(len(within))], within[m.chance.Intn(len(within))]
	switch m.chance.Intn(9) {
	case 0:
		one.Kind = api.NodeKind(m.chance.Intn(24))
	case 1:
		one.Text = m.one("", "a", "X", "1", "-", "not", "++", "<", strings.Repeat("A", 41), strings.Repeat("1", 401))
	case 2:
		one.Num = m.chance.Intn(5) - 1
	case 3:
		one.At = m.chance.Intn(3) - 1
	case 4:
		if len(one.Kids) > 0 {
			i := m.chance.Intn(len(one.Kids))
			one.Kids = append(one.Kids[:i:i], one.Kids[i+1:]...)
		}
	case 5:
		one.Kids = append(one.Kids[:len(one.Kids):len(one.Kids)], copied(*other))
	case 6:
		if len(one.Kids) > 1 {
			i, k := m.chance.Intn(len(one.Kids)), m.chance.Intn(len(one.Kids))
			one.Kids[i], one.Kids[k] = one.Kids[k], one.Kids[i]
		}
	case 7:
		*one = copied(*other)
	default:
		*one = m.leaf()
	}
}

// P4.1 to P4.4: trees by chance, right ones, and such as have been spoilt.
func TestAgainstWords(t *testing.T) {
	m := &maker{chance: rand.New(rand.NewSource(4))}
	rights := 0
	for i := range 20000 {
		m.room = i % 5
		n := m.item()
		if i%4 == 0 {
			n = m.module()
		}
		if howMany(n) > 300 { // what is great takes long, and is no other than what is small
			continue
		}
		if !node.Right(n) {
			t.Fatalf("%v", n)
		}
		againstWords(t, n)
		itemsAreRight(t, i, n)
		for range 3 {
			m.spoil(&n)
			againstWords(t, n)
			if node.Right(n) {
				rights++
				itemsAreRight(t, i, n)
			}
		}
	}
	if rights < 1000 {
		t.Errorf("of the spoilt ones only %d were right", rights)
	}
}

// P4.1: each node of each ordinary tree, turned into each of many others, and each of its kids left out or put there twice.
func TestTurnedNodes(t *testing.T) {
	others := append(rightTrees(), arm(), arm(x), guarded(), guarded(x), gen(x, x), late, function("f", arm()), block(), block(block(x)), caught, of(api.NodeClause), api.Node{})
	for _, n := range rightTrees() {
		n = copied(n)
		eachNode(&n, func(within *api.Node) {
			was := *within
			for _, other := range others {
				*within = other
				againstWords(t, n)
				*within = was
			}
			for kind := range 24 {
				within.Kind = api.NodeKind(kind)
				againstWords(t, n)
				*within = was
			}
			for i := range was.Kids {
				within.Kids = append(was.Kids[:i:i], was.Kids[i+1:]...)
				againstWords(t, n)
				within.Kids = append(was.Kids[:i+1:i+1], was.Kids[i:]...)
				againstWords(t, n)
				*within = was
			}
		})
	}
	for _, n := range wrongTrees() {
		againstWords(t, n)
	}
}
