package core_test

import (
	"math/rand"
	"reflect"
	"slices"
	"strings"
	"testing"

	"pigeonhole/api"
	"pigeonhole/core"
	"pigeonhole/lint"
	"pigeonhole/parse"
	"pigeonhole/show"
)

func of(kind api.NodeKind, kids ...api.Node) api.Node { return api.Node{Kind: kind, Kids: kids} }

func said(kind api.NodeKind, text string, kids ...api.Node) api.Node {
	return api.Node{Kind: kind, Text: text, Kids: kids}
}

// maker makes programs by chance: it knows the names in scope.
type maker struct {
	chance    *rand.Rand
	names     []string
	functions []api.Node
	great     int // of so many integers one is greater than it may be; of none, if this is 0
}

func (m *maker) text(texts ...string) string { return texts[m.chance.Intn(len(texts))] }

// seldom holds once in so many times.
func (m *maker) seldom(times int) bool { return m.chance.Intn(times) == 0 }

func (m *maker) some(least, most int, each func() api.Node) []api.Node {
	var out []api.Node
	for range least + m.chance.Intn(most-least+1) {
		out = append(out, each())
	}
	return out
}

// apart makes something of which no name is in scope behind it.
func (m *maker) apart(make func() api.Node) api.Node {
	names := slices.Clone(m.names)
	n := make()
	m.names = names
	return n
}

func (m *maker) integer() api.Node {
	if m.great > 0 && m.seldom(m.great) {
		return said(api.NodeInt, strings.Repeat("9", 309))
	}
	return said(api.NodeInt, m.text("0", "1", "2", "007", "00", "18446744073709551616", strings.Repeat("9", 308)))
}

func (m *maker) constant() api.Node {
	switch m.chance.Intn(3) {
	case 0:
		return m.integer()
	case 1:
		return said(api.NodeAtom, m.text("a", "true", "false", "", "A b", "if"))
	default:
		return said(api.NodeText, m.text("", "t", "a\x00\xff"))
	}
}

func (m *maker) pattern(room int) api.Node {
	each := func() api.Node { return m.pattern(room - 1) }
	if room < 1 || m.seldom(2) {
		name := m.text("X", "Y", "Z", "W", "V", "_")
		if name != "_" {
			m.names = append(m.names, name)
		}
		return said(api.NodeVar, name)
	}
	switch m.chance.Intn(6) {
	case 0:
		return of(api.NodeMatch, each(), each())
	case 1:
		return m.list(each)
	case 2:
		return said(api.NodeOp, "-", m.integer())
	case 3:
		return m.constant()
	default:
		return of(api.NodeTuple, m.some(0, 3, each)...)
	}
}

func (m *maker) list(each func() api.Node) api.Node {
	n := of(api.NodeList, m.some(0, 3, each)...)
	if len(n.Kids) > 1 {
		n.Num = m.chance.Intn(2)
	}
	return n
}

func (m *maker) leaf() api.Node {
	if len(m.names) == 0 || m.seldom(4) {
		return m.constant()
	}
	return said(api.NodeVar, m.text(m.names...))
}

func (m *maker) guard(room int) api.Node {
	each := func() api.Node { return m.guard(room - 1) }
	if room < 1 {
		return m.leaf()
	}
	switch m.chance.Intn(6) {
	case 0:
		return m.list(each)
	case 1:
		return of(api.NodeTuple, m.some(0, 2, each)...)
	case 2:
		return said(api.NodeOp, m.text("-", "+", "not"), each())
	case 3:
		return said(api.NodeOp, m.text("andalso", "orelse", "andalso", "orelse", "==", "=<", "+", "and", "div", "xor"), each(), each())
	case 4:
		return of(api.NodeCall, said(api.NodeAtom, m.text("hd", "abs", "is_function", "length", "not")), each())
	default:
		return m.leaf()
	}
}

func (m *maker) body(room int) api.Node {
	return of(api.NodeBlock, m.some(1, 3, func() api.Node { return m.bodyItem(room - 1) })...)
}

func (m *maker) bodyItem(room int) api.Node {
	if m.seldom(2) {
		right := m.bodyItem(room - 1)
		return of(api.NodeMatch, m.pattern(2), right)
	}
	return m.item(room)
}

func (m *maker) clause(room, least, patterns, guards int) api.Node {
	return m.apart(func() api.Node {
		row := of(api.NodeBlock, m.some(patterns, patterns, func() api.Node { return m.pattern(least) })...)
		return m.behind(room, guards, row)
	})
}

// behind is a clause whose patterns are made already.
func (m *maker) behind(room, guards int, patterns api.Node) api.Node {
	rows := of(api.NodeBlock, m.some(guards, guards+1, func() api.Node {
		return of(api.NodeBlock, m.some(1, 2, func() api.Node { return m.guard(2) })...)
	})...)
	return of(api.NodeClause, patterns, rows, m.body(room))
}

// row is some clauses alike.
func (m *maker) row(most, room, deep, patterns, guards int) []api.Node {
	return m.some(1, most, func() api.Node { return m.clause(room, deep, patterns, guards) })
}

func (m *maker) item(room int) api.Node {
	if room < 1 || m.seldom(5) {
		return m.leaf()
	}
	each := func() api.Node { return m.item(room - 1) }
	switch m.chance.Intn(14) {
	case 0:
		return of(api.NodeTuple, m.some(0, 3, each)...)
	case 1:
		return m.list(each)
	case 2:
		return said(api.NodeOp, m.text("-", "+", "not"), each())
	case 3:
		return said(api.NodeOp, m.text("!", "==", "++", "--", "+", "div", "or"), each(), each())
	case 4:
		return said(api.NodeOp, m.text("orelse", "andalso"), each(), each())
	case 5:
		return of(api.NodeCall, append([]api.Node{said(api.NodeAtom, m.text("hd", "print", "exit", "sum"))}, each())...)
	case 6:
		return m.known(each)
	case 7:
		called := each()
		if called.Kind == api.NodeAtom {
			called = of(api.NodeTuple, called)
		}
		return of(api.NodeCall, append([]api.Node{called}, m.some(0, 2, each)...)...)
	case 8, 9:
		return m.apart(func() api.Node { return m.comprehension(room) })
	default:
		return m.claused(room)
	}
}

// known is a call, or the name, of one of the module's functions.
func (m *maker) known(each func() api.Node) api.Node {
	f := m.functions[m.chance.Intn(len(m.functions))]
	if m.seldom(2) {
		return api.Node{Kind: api.NodeName, Text: f.Text, Num: f.Num}
	}
	return of(api.NodeCall, append([]api.Node{said(api.NodeAtom, f.Text)}, m.some(f.Num, f.Num, each)...)...)
}

func (m *maker) comprehension(room int) api.Node {
	kids := m.some(1, 3, func() api.Node {
		e := m.item(room - 1)
		if m.seldom(3) {
			return e
		}
		return of(api.NodeGen, m.pattern(1), e)
	})
	return of(api.NodeComp, append([]api.Node{m.item(room - 1)}, kids...)...)
}

func (m *maker) claused(room int) api.Node {
	switch m.chance.Intn(8) {
	case 0, 1:
		return of(api.NodeFun, m.row(2, room-1, 1, m.chance.Intn(4), 0)...)
	case 2:
		return of(api.NodeIf, m.row(2, room-1, 0, 0, 1)...)
	case 3:
		n := of(api.NodeReceive)
		if m.seldom(2) {
			n.Kids = m.row(2, room-1, 2, 1, 0)
		}
		if n.Num = m.chance.Intn(2); len(n.Kids) == 0 || n.Num == 1 {
			n.Num = 1
			time := m.item(room - 1)
			n.Kids = append(n.Kids, of(api.NodeAfter, time, m.apart(func() api.Node { return m.body(room - 1) })))
		}
		return n
	case 4:
		tried := m.apart(func() api.Node { return m.body(room - 1) })
		return of(api.NodeTry, append([]api.Node{tried}, m.some(1, 2, func() api.Node { return m.apart(func() api.Node { return m.caught(room - 1) }) })...)...)
	case 5:
		return m.apart(func() api.Node { return m.body(room - 1) })
	default:
		e := m.item(room - 1)
		return of(api.NodeCase, append([]api.Node{e}, m.row(3, room-1, 2, 1, 0)...)...)
	}
}

func (m *maker) caught(room int) api.Node {
	class := said(api.NodeAtom, m.text("error", "exit", "throw"))
	if m.seldom(2) {
		class = m.pattern(0)
	}
	return m.behind(room, 0, of(api.NodeBlock, of(api.NodeTuple, class, m.pattern(1))))
}

func (m *maker) module(room int) api.Node {
	m.functions = nil
	for _, name := range []string{"f", "g", "", "a b"}[:1+m.chance.Intn(4)] {
		m.functions = append(m.functions, api.Node{Kind: api.NodeFunction, Text: name, Num: m.chance.Intn(4)})
	}
	out := of(api.NodeModule)
	for _, f := range m.functions {
		f.Kids = m.row(2, room, 2, f.Num, 0)
		out.Kids = append(out.Kids, f)
	}
	return out
}

// visit goes through n and all that is in it, each ahead of its kids.
func visit(n *api.Node, do func(n *api.Node)) {
	do(n)
	for i := range n.Kids {
		visit(&n.Kids[i], do)
	}
}

// copied is n in new memory.
func copied(n api.Node) api.Node {
	kids := n.Kids
	n.Kids = nil
	for _, kid := range kids {
		n.Kids = append(n.Kids, copied(kid))
	}
	return n
}

func source(n api.Node) string {
	s, _ := show.Module(n)
	return s
}

// P8.1 to P8.7: programs by chance, each held against the chapter's words; what is made is sound.
func TestByChance(t *testing.T) {
	m := &maker{chance: rand.New(rand.NewSource(8)), great: 150}
	answers := map[api.Errno]int{}
	funs, loops := 0, 0
	for i := range 3000 {
		n := m.module(2 + i%4)
		if fault := lint.Check(n); fault.Err != api.OK {
			t.Fatalf("%s: %v", source(n), fault)
		}
		want, wantErr := makeByWords(n)
		p, err := core.Make(n)
		if got := writeProgram(p); got != want || err != wantErr {
			t.Fatalf("%s: %v, not %v\n%s\nnot\n%s", source(n), err, wantErr, got, want)
		}
		answers[err]++
		if err != api.OK {
			continue
		}
		if wrong := unsound(p) + uncounted(p, len(n.Kids)); wrong != "" {
			t.Fatalf("%s: %s", source(n), wrong)
		}
		for _, f := range p.Funcs[len(n.Kids):] {
			if strings.Contains(write(f.Body), "bad_generator") {
				loops++
			} else {
				funs++
			}
		}
		if i%4 == 0 {
			alike(t, n, p, m.chance)
		}
	}
	if answers[api.OK] < 2000 || answers[api.ErrMany] < 100 || funs < 1000 || loops < 1000 {
		t.Error(answers, funs, loops)
	}
}

// P8.7: other names of variables, and other places, make no difference; other names of functions none but for their own.
func alike(t *testing.T, n api.Node, p api.Program, chance *rand.Rand) {
	t.Helper()
	names := []string{"X", "Y", "Z", "W", "V"}
	for _, others := range [][]string{{"_X", "__", "A", "_1", "Zz@9_" + strings.Repeat("a", 35)}, {"Y", "Z", "W", "V", "X"}} {
		order := chance.Perm(len(names))
		other := copied(n)
		visit(&other, func(n *api.Node) {
			n.At = chance.Intn(1 << 30)
			if i := slices.Index(names, n.Text); n.Kind == api.NodeVar && i >= 0 {
				n.Text = others[order[i]]
			}
		})
		if got, err := core.Make(other); err != api.OK || !reflect.DeepEqual(got, p) {
			t.Fatalf("%s: %v\n%s\nnot as of %s:\n%s", source(other), err, writeProgram(got), source(n), writeProgram(p))
		}
	}
	other := copied(n)
	visit(&other, func(n *api.Node) {
		if n.Kind == api.NodeFunction || n.Kind == api.NodeName {
			n.Text += "_1"
		}
		if n.Kind == api.NodeCall && n.Kids[0].Kind == api.NodeAtom && lint.Kind(n.Kids[0].Text, len(n.Kids)-1) == lint.None {
			n.Kids[0].Text += "_1"
		}
	})
	got, err := core.Make(other)
	for i := range n.Kids {
		got.Funcs[i].Name = strings.TrimSuffix(got.Funcs[i].Name, "_1")
	}
	if err != api.OK || !reflect.DeepEqual(got, p) {
		t.Fatalf("%s: %v\n%s\nnot as of %s:\n%s", source(other), err, writeProgram(got), source(n), writeProgram(p))
	}
}

// shared says whether two lists of a program have memory in common: each element is given a number that no other has; are all of them there, when all are given?
// What stands behind a list's end, as far as there is memory of its own, is written over, too.
func shared(p api.Program) bool {
	var nums []*int
	var limbs []*uint32
	var terms func(row []api.Term)
	terms = func(row []api.Term) {
		for i := range row {
			nums = append(nums, &row[i].Num)
			for j := range row[i].Limbs {
				limbs = append(limbs, &row[i].Limbs[j])
			}
			terms(row[i].Items)
			terms(row[i].Tail)
		}
		clear(row[len(row):cap(row)])
	}
	var nodes func(row []api.Core)
	nodes = func(row []api.Core) {
		for i := range row {
			nums = append(nums, &row[i].Num)
			terms([]api.Term{row[i].Term})
			nodes(row[i].Kids)
		}
		clear(row[len(row):cap(row)])
	}
	for i := range p.Funcs {
		nodes(p.Funcs[i].Body.Kids)
	}
	for i := range nums {
		*nums[i] = i
	}
	for i := range limbs {
		*limbs[i] = uint32(i)
	}
	one := false
	for i := range nums {
		one = one || *nums[i] != i
	}
	for i := range limbs {
		one = one || *limbs[i] != uint32(i)
	}
	return one
}

// R3, R4: nothing of the tree is changed or kept, the answer is the same each time, in new memory, no two lists of which are one.
func TestAnswersAreAlikeAndNew(t *testing.T) {
	m := &maker{chance: rand.New(rand.NewSource(9))}
	made := 0
	for i := range 300 {
		n := m.module(2 + i%4)
		before := copied(n)
		first, err := core.Make(n)
		want := writeProgram(first)
		second, again := core.Make(n)
		if again != err || !reflect.DeepEqual(first, second) {
			t.Fatalf("%s: %v, %v", source(n), err, again)
		}
		if shared(first) {
			t.Fatalf("%s: two lists are one", source(n))
		}
		visit(&n, func(n *api.Node) { n.Text, n.Num, n.Kind = "?", -1, 99 })
		if writeProgram(second) != want {
			t.Fatalf("%s: the second answer is another by now", source(before))
		}
		third, again := core.Make(before)
		if again != err || !reflect.DeepEqual(second, third) {
			t.Fatalf("%s: %v, %v", source(before), err, again)
		}
		if err == api.OK {
			made++
		}
	}
	if made < 200 {
		t.Error(made)
	}
}

// R3
func TestTheTreeStaysAsItIs(t *testing.T) {
	m := &maker{chance: rand.New(rand.NewSource(10)), great: 200}
	for i := range 300 {
		n := m.module(2 + i%4)
		before := copied(n)
		core.Make(n)
		if !reflect.DeepEqual(n, before) {
			t.Fatalf("%s: the tree is another", source(before))
		}
	}
}

// P8.1 to P8.6: any source that is parsed becomes what the chapter's words have it become.
func FuzzSources(f *testing.F) {
	for _, s := range []string{"", "a(a@h000000)->0.", "'\\x01000001'('\\x02000001') -> '\\x01000001'(\"\\x01000001\").", "f(X) -> Y.", "f(X) -> X + 1.", "f(X) -> case X of 1 -> Y = 2; _ -> 3 end, Y = X = -1.", "f(L, X) -> receive X -> fun (X) when X -> [X || X <- L, X] end after X -> X end.", "f() -> try X = 1 catch Y : Z -> begin W = Y andalso Z, [W|\"a\"] end end."} {
		f.Add(s)
	}
	f.Fuzz(func(t *testing.T, s string) {
		m, fault := parse.Module(s)
		if fault.Err != api.OK {
			return
		}
		want, wantErr := makeByWords(m)
		p, err := core.Make(m)
		if got := writeProgram(p); got != want || err != wantErr {
			t.Fatalf("%s: %v, not %v\n%s\nnot\n%s", s, err, wantErr, got, want)
		}
	})
}
