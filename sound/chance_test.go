package sound_test

import (
	"math/rand"
	"reflect"
	"slices"
	"testing"

	"pigeonhole/api"
	"pigeonhole/core"
	"pigeonhole/parse"
	"pigeonhole/sound"
)

// maker makes sound programs by chance.
type maker struct {
	*rand.Rand
	funcs []api.Func
	vars  int
}

func (m *maker) program() api.Program {
	m.funcs = make([]api.Func, 1+m.Intn(4))
	for i := range m.funcs {
		extra := max(0, m.Intn(5)-2)
		arity := extra + m.Intn(3)
		m.funcs[i] = api.Func{Name: m.text("f", "", "a b"), Extra: extra, Arity: arity, Vars: arity + m.Intn(8)}
	}
	for i, f := range m.funcs {
		m.vars = f.Vars
		var b row
		for num := range f.Arity {
			b = b.and(num)
		}
		m.funcs[i].Body = m.expression(1+m.Intn(4), b)
	}
	return api.Program{Funcs: m.funcs}
}

func (m *maker) text(texts ...string) string { return texts[m.Intn(len(texts))] }

func (m *maker) some(least, most int, each func() api.Core) []api.Core {
	var out []api.Core
	for range least + m.Intn(most-least+1) {
		out = append(out, each())
	}
	return out
}

func (m *maker) term() api.Term {
	return []api.Term{integer(), integer(7), atom("a"), atom(""), {Kind: api.List}, {Kind: api.Tuple, Items: []api.Term{atom("if")}}, {Kind: api.Pid, Num: 2}}[m.Intn(7)]
}

func (m *maker) leaf(b row) api.Core {
	if len(b) == 0 || m.Intn(3) == 0 {
		return holding(api.CoreConst, m.term())
	}
	return x(b[m.Intn(len(b))])
}

// fresh is a variable that is not bound; false, if all are.
func (m *maker) fresh(b row) (int, bool) {
	var left []int
	for num := range m.vars {
		if !slices.Contains(b, num) {
			left = append(left, num)
		}
	}
	if len(left) == 0 {
		return 0, false
	}
	return left[m.Intn(len(left))], true
}

func (m *maker) expression(room int, b row) api.Core {
	if room < 1 {
		return m.leaf(b)
	}
	each := func() api.Core { return m.expression(room-1, b) }
	switch m.Intn(12) {
	case 0:
		return tuple(m.some(0, 3, each)...)
	case 1:
		return of(api.CoreCons, each(), each())
	case 2, 3:
		num, ok := m.fresh(b)
		if !ok {
			return m.leaf(b)
		}
		return let(num, each(), m.expression(room-1, b.and(num)))
	case 4:
		return of(api.CoreApply, m.some(1, 3, each)...)
	case 5:
		return []func() api.Core{func() api.Core { return bif("self") }, func() api.Core { return bif("hd", each()) }, func() api.Core { return bif(m.text("++", "!", "<"), each(), each()) }}[m.Intn(3)]()
	case 6:
		return said(api.CoreFail, m.text("", "badmatch", "a b"), m.some(0, 1, each)...)
	case 7:
		return m.function(each, b)
	case 8:
		out := numbered(api.CoreReceive, m.Intn(2))
		out.Kids = m.some(1-out.Num, 2, func() api.Core { return m.clause(room-1, b) })
		if out.Num == 1 {
			out.Kids = append(out.Kids, each(), each())
		}
		return out
	default:
		kids := []api.Core{each()}
		return of([]api.CoreKind{api.CoreCase, api.CoreCase, api.CoreTry}[m.Intn(3)], append(kids, m.some(1, 3, func() api.Core { return m.clause(room-1, b) })...)...)
	}
}

// function is a call, or a fun.
func (m *maker) function(each func() api.Core, b row) api.Core {
	num := m.Intn(len(m.funcs))
	f := m.funcs[num]
	switch {
	case f.Extra == 0 && m.Intn(2) == 0:
		return call(num, m.some(f.Arity, f.Arity, each)...)
	case f.Extra == 0 || len(b) > 0:
		return fun(num, m.some(f.Extra, f.Extra, func() api.Core { return x(b[m.Intn(len(b))]) })...)
	default:
		return m.leaf(b)
	}
}

func (m *maker) clause(room int, b row) api.Core {
	own := b.and()
	p := m.pattern(m.Intn(3), &own)
	guards := m.some(0, 2, func() api.Core {
		return all(m.some(0, 2, func() api.Core { return m.test(m.Intn(3), own) })...)
	})
	return of(api.CoreClause, p, some(guards...), m.expression(room, own))
}

func (m *maker) pattern(room int, b *row) api.Core {
	each := func() api.Core { return m.pattern(room-1, b) }
	switch kind := m.Intn(8); {
	case kind == 0 && room > 0:
		return cons(each(), each())
	case kind == 1 && room > 0:
		return both(each(), each())
	case kind < 4 && room > 0:
		return pats(m.some(0, 3, each)...)
	case kind == 4:
		return holding(api.PatConst, m.term())
	case kind == 5 && len(*b) > 0:
		return same((*b)[m.Intn(len(*b))])
	}
	if num, ok := m.fresh(*b); ok && m.Intn(4) > 0 {
		*b = b.and(num)
		return bind(num)
	}
	return wildcard
}

func (m *maker) test(room int, b row) api.Core {
	each := func() api.Core { return m.test(room-1, b) }
	if room < 1 {
		return m.leaf(b)
	}
	switch m.Intn(5) {
	case 0:
		return tuple(m.some(0, 2, each)...)
	case 1:
		return of(api.CoreCons, each(), each())
	case 2:
		return bif(m.text("hd", "-", "not"), each())
	case 3:
		return bif(m.text("<", "-", "element"), each(), each())
	default:
		return of([]api.CoreKind{api.GuardAll, api.GuardAny}[m.Intn(2)], each(), each())
	}
}

// any is a node by chance, of any Kinds: as a rule of those that there are.
func (m *maker) any(room int) api.Core {
	kinds := []api.CoreKind{api.CoreVar, api.CoreVar, api.PatSame, api.PatBind, api.PatBind, api.PatTuple, api.PatTuple, api.PatCons, api.PatBoth, api.CoreLet, api.CoreLet, api.CoreClause, api.CoreClause, api.CoreTuple, api.CoreCase}
	c := api.Core{Kind: kinds[m.Intn(len(kinds))], Num: m.Intn(6) - 1}
	if m.Intn(5) == 0 {
		c.Kind = api.CoreKind(m.Intn(34))
	}
	if m.Intn(6) == 0 {
		c.Text = m.text("a", "if", "A", "+", "a234567890123456789012345678901234567890", "a2345678901234567890123456789012345678901")
	}
	if m.Intn(6) == 0 {
		c.Term = m.term()
	}
	if room > 0 {
		c.Kids = m.some(0, 3, func() api.Core { return m.any(room - 1) })
	}
	return c
}

// spoil changes something of a node within c.
func (m *maker) spoil(c *api.Core) {
	var nodes []*api.Core
	visit(c, func(c *api.Core) { nodes = append(nodes, c) })
	at, other := nodes[m.Intn(len(nodes))], nodes[m.Intn(len(nodes))]
	switch m.Intn(10) {
	case 0:
		at.Kind = other.Kind
	case 1:
		at.Text = m.text("", "hd", "a")
	case 2, 3:
		at.Num += m.Intn(3) - 1
	case 4:
		at.Num = other.Num
	case 5:
		at.Term = m.term()
	case 6:
		at.Kids = append(slices.Clone(at.Kids), copied(*other))
	case 7:
		if len(at.Kids) > 0 {
			at.Kids = at.Kids[1:]
		}
	case 8:
		at.Kids = slices.Clone(at.Kids)
		m.Shuffle(len(at.Kids), func(i, k int) { at.Kids[i], at.Kids[k] = at.Kids[k], at.Kids[i] })
	default:
		*at = copied(*other)
	}
}

// spoilFunc changes something of a function.
func (m *maker) spoilFunc(f *api.Func) {
	switch m.Intn(12) {
	case 0:
		f.Arity += m.Intn(3) - 1
	case 1:
		f.Extra += m.Intn(3) - 1
	case 2:
		f.Vars += m.Intn(5) - 2
	default:
		m.spoil(&f.Body)
	}
}

func copiedProgram(p api.Program) api.Program {
	out := api.Program{Funcs: slices.Clone(p.Funcs)}
	for i := range out.Funcs {
		out.Funcs[i].Body = copied(out.Funcs[i].Body)
	}
	return out
}

// against holds Check against the chapter's words, and says whether the program is sound.
func against(t *testing.T, p api.Program) bool {
	t.Helper()
	wrong, got := unsound(p), sound.Check(p)
	if (got == api.OK) != (wrong == "") || got != api.OK && got != api.ErrShape {
		for i, f := range p.Funcs {
			t.Logf("%d: %s %d+%d/%d %s", i, f.Name, f.Extra, f.Arity-f.Extra, f.Vars, sound.Show(f.Body))
		}
		t.Fatalf("%v, but: %s", got, wrong)
	}
	return got == api.OK
}

// P9.1, P9.4: sound programs by chance, and what comes of them by a change or two.
func TestCheckByChance(t *testing.T) {
	m := &maker{Rand: rand.New(rand.NewSource(9))}
	still := 0
	for range 4000 {
		p := m.program()
		if !against(t, p) {
			t.Fatal(unsound(p))
		}
		for _, f := range p.Funcs {
			withoutFree(t, f)
		}
		for range 4 {
			other := copiedProgram(p)
			for range 1 + m.Intn(2) {
				m.spoilFunc(&other.Funcs[m.Intn(len(other.Funcs))])
			}
			if against(t, other) {
				still++
				for _, f := range other.Funcs {
					withoutFree(t, f)
				}
			}
		}
	}
	if still < 1000 || still > 15000 {
		t.Errorf("%d of 16000 are sound still", still)
	}
}

// withoutFree asks that a sound function's Body has no free variables but its parameters.
func withoutFree(t *testing.T, f api.Func) {
	t.Helper()
	for _, num := range sound.Free(f.Body) {
		if num < 0 || num >= f.Arity {
			t.Fatalf("%d is free in %s", num, sound.Show(f.Body))
		}
	}
}

// P9.2, P9.3: any nodes, held against the chapter's words.
func TestTellsByChance(t *testing.T) {
	m := &maker{Rand: rand.New(rand.NewSource(10))}
	free, bound := 0, 0
	for i := range 40000 {
		c := m.any(i % 7)
		tells(t, c)
		free += len(sound.Free(c))
		bound += len(sound.Bound(c))
	}
	if free < 30000 || bound < 30000 {
		t.Error(free, bound)
	}
}

func tells(t *testing.T, c api.Core) {
	t.Helper()
	if got, want := sound.Show(c), showByWords(c); got != want {
		t.Fatalf("Show: %s\nnot %s", got, want)
	}
	if got, want := sound.Bound(c), boundByWords(c).rising(); !slices.Equal(got, want) {
		t.Fatalf("Bound of %s: %v, not %v", sound.Show(c), got, want)
	}
	if got, want := sound.Free(c), freeByWords(c).rising(); !slices.Equal(got, want) {
		t.Fatalf("Free of %s: %v, not %v", sound.Show(c), got, want)
	}
}

// sources have all that a program may have.
var sources = []string{
	"", "f() -> 1.", "f(X) -> X + 1.", "f(X) -> print(X + 1).",
	"f() -> self() ! 1, self() ! 2, receive 2 -> receive X -> print(X) end end.",
	"f() -> P = spawn_link(fun () -> exit(a) end), receive X -> X end.",
	"f() -> receive X -> X after 5 -> print(late) end.", "f(T) -> receive after T -> ok end.",
	"f(L) -> [X * 2 || X <- L, X > 1].", "f(L, M) -> [{X, Y, Z} || {X, 1} <- L, Y <- M, X < Y, Z <- [X, Y | M]].",
	"f(X) -> try g(X) catch error : badarith -> none; C : R when C == exit, R > 1; R -> {C, R} end. g(X) -> X + a.",
	"f(X, X) when X > 1, X < 9; is_atom(X) -> {X, \"ab\", []}; f([H | T], {H, _}) -> fun (Y) when Y =/= H -> {Y, T}; (H) -> H end; f(_, _) -> fun g/0. g() -> h. h(A, B, C, D, E, F, G, H, I, J, K, L) -> {A, B, C, D, E, F, G, H, I, J, K, L}.",
	"f(X) -> case X of 1 -> Y = 2, Y; {Y, Z} = {Z, Y} when Z andalso (Y orelse hd(Z)) -> Z end, begin Y = 3, Z = W = Y, W end, if X == 1, true -> 1; true -> X andalso X orelse false end.",
	"f(F, X) -> F(X, F), (fun () -> X end)(), f(fun f/2, -1), G = fun (Y) -> fun (Z) -> {X, Y, Z, F} end end, G.",
	"f(X) -> [[fun () -> {X, Y, Z} end || Z <- Y, Z, begin W = Z, W end] || Y <- X].",
}

func made(t *testing.T, source string) api.Program {
	t.Helper()
	m, fault := parse.Module(source)
	if fault.Err != api.OK {
		t.Fatalf("%s: %v", source, fault)
	}
	p, err := core.Make(m)
	if err != api.OK {
		t.Fatalf("%s: %v", source, err)
	}
	return p
}

// P9.1, P9.4: what core.Make makes is sound; with a change or two it is what the chapter's words say.
func TestWhatCoreMakes(t *testing.T) {
	m := &maker{Rand: rand.New(rand.NewSource(11))}
	functions, still, not := 0, 0, 0
	for _, source := range sources {
		p := made(t, source)
		functions += len(p.Funcs)
		if got := sound.Check(p); got != api.OK {
			t.Errorf("%s: %v, %s", source, got, unsound(p))
		}
		for _, f := range p.Funcs {
			withoutFree(t, f)
			tells(t, f.Body)
		}
		for range 300 {
			if len(p.Funcs) == 0 {
				continue
			}
			other := copiedProgram(p)
			m.spoilFunc(&other.Funcs[m.Intn(len(other.Funcs))])
			if against(t, other) {
				still++
			} else {
				not++
			}
		}
	}
	if functions < 25 || still < 300 || not < 1000 {
		t.Error(functions, still, not)
	}
}

// joined is two programs put together: what the second one's calls call stands behind the first one's functions.
func joined(p, q api.Program) api.Program {
	p, q = copiedProgram(p), copiedProgram(q)
	for i := range q.Funcs {
		visit(&q.Funcs[i].Body, func(c *api.Core) {
			if c.Kind == api.CoreCall || c.Kind == api.CoreFun {
				c.Num += len(p.Funcs)
			}
		})
	}
	return api.Program{Funcs: append(p.Funcs, q.Funcs...)}
}

// P9.4: sound functions put together are sound, if all calls find theirs.
func TestPutTogether(t *testing.T) {
	m := &maker{Rand: rand.New(rand.NewSource(12))}
	var programs []api.Program
	for _, source := range sources {
		programs = append(programs, made(t, source))
	}
	for range 60 {
		programs = append(programs, m.program())
	}
	missed := 0
	for _, p := range programs {
		for _, q := range programs {
			whole := joined(p, q)
			if got := sound.Check(whole); got != api.OK {
				t.Fatalf("%v, %s", got, unsound(whole))
			}
			for n := range p.Funcs { // without some of the last ones' functions
				if !against(t, api.Program{Funcs: whole.Funcs[:n]}) {
					missed++
				}
			}
		}
	}
	if missed < 100 {
		t.Error(missed)
	}
	f := api.Func{Name: "f", Body: call(1, a)}
	g := api.Func{Name: "g", Arity: 1, Vars: 1, Body: fun(2, x(0))}
	h := api.Func{Arity: 2, Extra: 1, Vars: 2, Body: call(0)}
	for i, c := range []struct {
		funcs []api.Func
		want  api.Errno
	}{{[]api.Func{f, g, h}, api.OK}, {[]api.Func{f, g}, api.ErrShape}, {[]api.Func{f}, api.ErrShape}, {[]api.Func{f, h, g}, api.ErrShape}, {[]api.Func{g, f, h}, api.ErrShape}, {[]api.Func{f, g, h, f, g, h}, api.OK}} {
		if got := sound.Check(api.Program{Funcs: c.funcs}); got != c.want {
			t.Errorf("%d: %v", i, got)
		}
	}
}

// R3, R4: nothing that is handed in is changed or kept, and what is handed out is new memory, the same each time.
func TestAnswersAreAlikeAndNew(t *testing.T) {
	m := &maker{Rand: rand.New(rand.NewSource(13))}
	for i := range 1000 {
		c := m.any(i % 7)
		before := copied(c)
		show, bound, free := sound.Show(c), sound.Bound(c), sound.Free(c)
		p := m.program()
		if i%2 == 0 {
			m.spoilFunc(&p.Funcs[0])
		}
		asked := copiedProgram(p)
		verdict := sound.Check(asked)
		if sound.Check(asked) != verdict || !reflect.DeepEqual(asked, copiedProgram(p)) {
			t.Fatal("Check changes what it is handed")
		}
		first := slices.Clone(free)
		other := sound.Free(c)
		for k := range free {
			free[k] = -99
		}
		clear(bound[:cap(bound)])
		if !slices.Equal(other, first) || !slices.Equal(sound.Free(c), first) || sound.Show(c) != show {
			t.Fatalf("%s: %v, %v", show, other, first)
		}
		if !reflect.DeepEqual(c, before) && !reflect.DeepEqual(copied(c), copied(before)) {
			t.Fatalf("%s is changed", show)
		}
		visit(&c, func(c *api.Core) { c.Kind, c.Num, c.Text = 77, 5, "?" })
		tells(t, c)
		if sound.Show(before) != show || !slices.Equal(other, first) {
			t.Fatalf("%s: kept", show)
		}
		for k := range asked.Funcs {
			visit(&asked.Funcs[k].Body, func(c *api.Core) { c.Kind = 77 })
		}
		if got := sound.Check(asked); got != api.ErrShape {
			t.Fatalf("%v of what it was", got)
		}
	}
}

// built makes a node of each three bytes, out of those that stand last: a Kind, a Num, how many Kids.
func built(s string) api.Core {
	texts := []string{"", "hd", "+", "self"}
	var row []api.Core
	for ; len(s) > 2; s = s[3:] {
		kids := min(int(s[2]&7), len(row))
		rest := len(row) - kids
		c := api.Core{Kind: api.CoreKind(s[0] & 63), Num: int(int8(s[1])), Text: texts[s[2]>>3&3], Kids: slices.Clone(row[rest:])}
		if s[2]>>5&1 == 1 {
			c.Term = atom(texts[s[2]>>6&3])
		}
		row = append(row[:rest], c)
	}
	if len(row) == 1 {
		return row[0]
	}
	return tuple(row...)
}

// R1: any bytes make a node, and it has its answers.
func FuzzNodes(f *testing.F) {
	for _, s := range []string{"", "\x02\x00\x00", "\x02\x00\x00\x15\x02\x00\x1f\x00\x00\x02\x02\x00\x0d\x00\x03\x0a\x00\x02", "\x01\x00\x20\x02\x02\x00\x05\x02\x02", "\x15\x01\x00\x16\x01\x00\x18\x00\x02"} {
		f.Add(s)
	}
	f.Fuzz(func(t *testing.T, s string) {
		c := built(s)
		tells(t, c)
		against(t, about(c))
	})
}
