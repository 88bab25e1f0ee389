package term

import (
	"math/rand"
	"reflect"
	"slices"
	"strings"
	"testing"

	"pigeonhole/api"
	"pigeonhole/whole"
)

func num(n int64) api.Term { return whole.Of(n) }

func atom(s string) api.Term { return api.Term{Kind: api.Atom, Text: s} }

func ref(n int) api.Term { return api.Term{Kind: api.Ref, Num: n} }

func pid(n int) api.Term { return api.Term{Kind: api.Pid, Num: n} }

func fun(n int, items ...api.Term) api.Term {
	return api.Term{Kind: api.Fun, Num: n, Items: items}
}

func tuple(items ...api.Term) api.Term { return api.Term{Kind: api.Tuple, Items: items} }

func list(items ...api.Term) api.Term { return api.Term{Kind: api.List, Items: items} }

func improper(tail api.Term, items ...api.Term) api.Term {
	return api.Term{Kind: api.List, Items: items, Tail: []api.Term{tail}}
}

// nested is t in so many tuples, one in another.
func nested(t api.Term, depth int) api.Term {
	for range depth {
		t = tuple(t)
	}
	return t
}

// looped leads back into itself, through Items and through a Tail.
func looped(kind api.Kind) api.Term {
	row := make([]api.Term, 2)
	row[0] = api.Term{Kind: kind, Items: row}
	row[1] = api.Term{Kind: api.List, Items: row[:1], Tail: row[:1]}
	return row[0]
}

// doubled is a tuple of two tuples of two tuples ..: small in memory, without number as a tree.
func doubled(depth int) api.Term {
	t := tuple()
	for range depth {
		t = tuple(t, t)
	}
	return t
}

func zero(t api.Term) bool { return reflect.DeepEqual(t, api.Term{}) }

type sized struct {
	term api.Term
	size int
}

// rights are right terms with the sizes that the chapter's table gives them.
func rights() []sized {
	limbs := slices.Repeat([]uint32{7}, api.MaxLimbs)
	return []sized{
		{num(0), 1}, {num(1), 2}, {num(-1), 2}, {num(1 << 32), 3},
		{api.Term{Kind: api.Int, Limbs: limbs}, 33}, {api.Term{Kind: api.Int, Neg: true, Limbs: limbs}, 33},
		{api.Term{Kind: api.Int, Limbs: []uint32{}}, 1},
		{atom(""), 1}, {atom("a"), 1}, {atom(strings.Repeat("\xff", 40)), 1},
		{ref(0), 1}, {ref(1 << 40), 1}, {pid(0), 1}, {pid(1 << 40), 1},
		{fun(0), 2}, {fun(16384), 2}, {fun(1, num(1), fun(2)), 6},
		{tuple(), 1}, {tuple(atom("a")), 2}, {tuple(tuple(), tuple(num(0))), 4},
		{list(), 1}, {list(num(0)), 3}, {list(list()), 3}, {list(list(), list(list())), 7},
		{improper(atom("a"), num(0)), 4}, {improper(num(1), num(1), num(1)), 9},
		{improper(tuple(list()), fun(0)), 6},
		{tuple(atom("a"), improper(atom("b"), num(1), num(2))), 10},
		{api.Term{Kind: api.List, Items: []api.Term{}, Tail: []api.Term{}}, 1},
		{api.Term{Kind: api.Atom, Limbs: []uint32{}, Items: []api.Term{}, Tail: []api.Term{}}, 1},
		{nested(atom("a"), api.MaxSize-1), api.MaxSize},
		{tuple(slices.Repeat([]api.Term{atom("a")}, api.MaxSize-1)...), api.MaxSize},
		{fun(3, slices.Repeat([]api.Term{atom("a")}, api.MaxSize-2)...), api.MaxSize},
		{list(slices.Repeat([]api.Term{num(1)}, 1365)...), api.MaxSize},
		{improper(num(0), slices.Repeat([]api.Term{num(0)}, 2047)...), api.MaxSize},
	}
}

// flaws are terms that are not right, each for one reason.
func flaws() []api.Term {
	one := []api.Term{atom("a")}
	limb := []uint32{1}
	flaws := []api.Term{
		{}, {Kind: 8}, {Kind: 255},
		{Kind: api.Int, Limbs: []uint32{0}}, {Kind: api.Int, Limbs: []uint32{1, 0}}, {Kind: api.Int, Neg: true},
		{Kind: api.Int, Limbs: slices.Repeat([]uint32{7}, api.MaxLimbs+1)},
		atom(strings.Repeat("a", 41)),
		ref(-1), ref(1<<40 + 1), pid(-1), pid(1<<40 + 1), fun(-1), fun(16385),
		{Kind: api.List, Tail: one}, {Kind: api.List, Items: one, Tail: []api.Term{atom("a"), atom("b")}},
		improper(list(), num(1)), improper(list(num(1)), num(1)), improper(api.Term{}, num(1)),
		improper(improper(num(1), num(1)), num(1)),
		nested(atom("a"), api.MaxSize),
		tuple(slices.Repeat([]api.Term{atom("a")}, api.MaxSize)...),
		fun(3, slices.Repeat([]api.Term{atom("a")}, api.MaxSize-1)...),
		list(append(slices.Repeat([]api.Term{num(1)}, 1364), num(1<<32))...),
		improper(num(1), slices.Repeat([]api.Term{num(0)}, 2047)...),
		list(make([]api.Term, 5000)...),
		looped(api.Tuple), looped(api.List), looped(api.Fun), doubled(200),
	}
	// A field that the Kind has no use for, in a term that would be right without it.
	for _, kind := range []api.Kind{api.Int, api.Atom, api.Ref, api.Fun, api.Pid, api.Tuple, api.List} {
		useless := map[string]api.Term{
			"Neg":   {Kind: kind, Neg: true},
			"Limbs": {Kind: kind, Limbs: limb},
			"Text":  {Kind: kind, Text: "a"},
			"Num":   {Kind: kind, Num: 1},
			"Items": {Kind: kind, Items: one},
			"Tail":  {Kind: kind, Tail: one},
		}
		for _, used := range usedFields(kind) {
			delete(useless, used)
		}
		for _, t := range useless {
			flaws = append(flaws, t)
		}
	}
	return flaws
}

func usedFields(kind api.Kind) []string {
	switch kind {
	case api.Int:
		return []string{"Limbs"}
	case api.Atom:
		return []string{"Text"}
	case api.Ref, api.Pid:
		return []string{"Num"}
	case api.Fun:
		return []string{"Num", "Items"}
	default:
		return []string{"Items"}
	}
}

// P2.1
func TestRightTermsHaveTheirSizes(t *testing.T) {
	for i, x := range rights() {
		if !Right(x.term) || Size(x.term) != x.size {
			t.Errorf("%d: %v, of size %d, not %d", i, Right(x.term), Size(x.term), x.size)
		}
		if Compare(x.term, x.term) != 0 || !Same(x.term, x.term) {
			t.Errorf("%d: not the same as itself", i)
		}
	}
}

// P2.1, P2.2, P2.3
func TestWhatIsNotRight(t *testing.T) {
	a := atom("a")
	for i, x := range flaws() {
		for where, y := range map[string]api.Term{
			"top": x, "tuple": tuple(a, x), "fun": fun(1, a, x), "list": list(a, x, a),
			"tail": improper(tuple(x), a), "deep": nested(list(a, nested(x, 50)), 50),
		} {
			if Right(y) || Size(y) != 0 {
				t.Errorf("%d, %s: right, of size %d", i, where, Size(y))
			}
			if Same(y, y) || Same(y, a) || Same(a, y) || Compare(y, y) != 0 || Compare(y, a) != 0 || Compare(a, y) != 0 {
				t.Errorf("%d, %s: compared", i, where)
			}
			if s := Text(y); s != "" {
				t.Errorf("%d, %s: the text %s", i, where, s)
			}
			if !zero(Cons(y, a)) || !zero(Cons(a, y)) || !zero(Cons(y, list(a))) {
				t.Errorf("%d, %s: in a list", i, where)
			}
			if h, r, ok := Split(y); ok || !zero(h) || !zero(r) {
				t.Errorf("%d, %s: split", i, where)
			}
		}
	}
}

// P2.1: a field too many is enough to be no more the same.
func TestSameWantsBothRight(t *testing.T) {
	for i, x := range []struct{ right, not api.Term }{
		{atom("a"), api.Term{Kind: api.Atom, Text: "a", Num: 1}},
		{pid(1), api.Term{Kind: api.Pid, Num: 1, Text: "a"}},
		{tuple(num(1)), api.Term{Kind: api.Tuple, Neg: true, Items: []api.Term{num(1)}}},
		{list(pid(1)), list(api.Term{Kind: api.Pid, Num: 1, Limbs: []uint32{1}})},
	} {
		if Same(x.right, x.not) || Same(x.not, x.right) || !Same(x.right, x.right) {
			t.Errorf("%d", i)
		}
	}
}

// P2.1: rising has each term above all those ahead of it.
func rising() []api.Term {
	return []api.Term{
		{Kind: api.Int, Neg: true, Limbs: slices.Repeat([]uint32{1}, api.MaxLimbs)},
		num(-1 << 32), num(-2), num(-1), num(0), num(1), num(2), num(1 << 32),
		{Kind: api.Int, Limbs: slices.Repeat([]uint32{1}, api.MaxLimbs)},
		atom(""), atom("\x00"), atom("B"), atom("a"), atom("aa"), atom("ab"), atom("b"), atom("ba"), atom("\x7f"), atom("\x80"), atom("\xff"),
		ref(0), ref(1), ref(10), ref(1 << 40),
		fun(0, tuple(), tuple()), fun(1), fun(1, num(9)), fun(1, atom("a")), fun(1, num(1), num(2)), fun(1, num(2), num(1)), fun(2), fun(16384),
		pid(0), pid(1), pid(10), pid(1 << 40),
		tuple(), tuple(num(2)), tuple(list(num(9))), tuple(num(1), num(1)), tuple(num(1), num(2)), tuple(num(2), num(1)), tuple(num(0), num(0), num(0)),
		list(), improper(num(2), num(1)), improper(num(3), num(1)), improper(atom("a"), num(1)), improper(tuple(), num(1)), list(num(1)),
		improper(num(0), num(1), num(1)), improper(pid(1), num(1), num(1)), list(num(1), num(1)), list(num(1), num(1), num(1)), list(num(1), num(2)),
		improper(num(9), num(2)), list(num(2)), list(num(2), num(0)), list(atom("a")), list(list()), list(list(), num(0)), list(list(num(1))),
	}
}

// P2.1, P2.4
func TestOrder(t *testing.T) {
	l := rising()
	for i, a := range l {
		for k, b := range l {
			want := 0
			if i < k {
				want = -1
			} else if i > k {
				want = 1
			}
			if c := Compare(a, b); c != want {
				t.Errorf("%s, %s: %d, not %d", Text(a), Text(b), c, want)
			}
			if Same(a, b) != (i == k) {
				t.Errorf("%s, %s: the same: %v", Text(a), Text(b), Same(a, b))
			}
		}
	}
}

// P2.1: what differs deep within tells, and depth is no hindrance.
func TestOrderDeepWithin(t *testing.T) {
	a, b := nested(num(0), 4000), nested(atom("a"), 4000)
	if Compare(a, b) != -1 || Compare(b, a) != 1 || Same(a, b) || !Same(a, nested(num(0), 4000)) {
		t.Error("within 4000 tuples")
	}
}

// P2.1, R6
func TestEmptyListsAreNil(t *testing.T) {
	empty := api.Term{Kind: api.List, Limbs: []uint32{}, Items: []api.Term{}, Tail: []api.Term{}}
	if !Same(empty, list()) || Compare(list(empty), list(list())) != 0 || Text(empty) != "[]" {
		t.Error("an empty list is not the nil one")
	}
	one := api.Term{Kind: api.List, Items: []api.Term{num(1)}, Tail: []api.Term{}}
	if !Same(one, list(num(1))) || Text(one) != "[1]" || !Same(Cons(num(1), empty), one) {
		t.Error("an empty Tail is not the nil one")
	}
}

// P2.2
func TestCons(t *testing.T) {
	full := list(slices.Repeat([]api.Term{num(0)}, 2047)...) // of size 4095
	for i, x := range []struct{ h, t, want api.Term }{
		{num(1), list(), list(num(1))},
		{num(1), list(num(2), num(3)), list(num(1), num(2), num(3))},
		{list(num(1)), list(list()), list(list(num(1)), list())},
		{num(1), improper(atom("b"), num(2)), improper(atom("b"), num(1), num(2))},
		{num(1), atom("b"), improper(atom("b"), num(1))},
		{num(1), tuple(list()), improper(tuple(list()), num(1))},
		{num(0), fun(2, pid(1)), improper(fun(2, pid(1)), num(0))},
		{num(0), full, api.Term{}},
		{num(0), list(full.Items[1:]...), full},
		{num(1), list(full.Items[1:]...), list(append([]api.Term{num(1)}, full.Items[1:]...)...)}, // just 4096
		{num(1 << 32), list(full.Items[1:]...), api.Term{}},
		{full, list(), api.Term{}},
		{nested(atom("a"), 4093), list(), list(nested(atom("a"), 4093))},
		{nested(atom("a"), 4092), atom("a"), improper(atom("a"), nested(atom("a"), 4092))},
		{nested(atom("a"), 4093), atom("a"), api.Term{}},
		{atom("a"), nested(atom("a"), 4093), api.Term{}},
		{nested(atom("a"), 4095), nested(atom("a"), 4095), api.Term{}},
		{api.Term{}, list(), api.Term{}},
		{num(1), api.Term{}, api.Term{}},
	} {
		if got := Cons(x.h, x.t); !reflect.DeepEqual(got, x.want) {
			t.Errorf("%d: %s, not %s", i, Text(got), Text(x.want))
		}
	}
}

// P2.2
func TestSplit(t *testing.T) {
	for i, x := range []struct{ t, h, r api.Term }{
		{list(num(1)), num(1), list()},
		{list(num(1), num(2), num(3)), num(1), list(num(2), num(3))},
		{list(list(num(1)), list()), list(num(1)), list(list())},
		{improper(atom("b"), num(1), num(2)), num(1), improper(atom("b"), num(2))},
		{improper(atom("b"), num(1)), num(1), atom("b")},
		{improper(tuple(list()), num(1)), num(1), tuple(list())},
	} {
		h, r, ok := Split(x.t)
		if !ok || !reflect.DeepEqual(h, x.h) || !reflect.DeepEqual(r, x.r) {
			t.Errorf("%d: %s, %s, %v", i, Text(h), Text(r), ok)
		}
	}
	for i, x := range []api.Term{list(), {Kind: api.List, Items: []api.Term{}}, tuple(num(1)), fun(1, num(1)), num(1), atom("a"), ref(1), pid(1)} {
		if h, r, ok := Split(x); ok || !zero(h) || !zero(r) {
			t.Errorf("%d: %s, %s, %v", i, Text(h), Text(r), ok)
		}
	}
}

// P2.2
func TestOf(t *testing.T) {
	all := make([]byte, 256)
	items := make([]api.Term, 256)
	for i := range all {
		all[i], items[i] = byte(i), num(int64(i))
	}
	for i, x := range []struct {
		s    string
		want api.Term
	}{
		{"", list()},
		{"Az\x00\xff", list(num(65), num(122), num(0), num(255))},
		{string(all), list(items...)},
		{strings.Repeat("a", 1365), list(slices.Repeat([]api.Term{num('a')}, 1365)...)},
		{strings.Repeat("\x00", 2047), list(slices.Repeat([]api.Term{num(0)}, 2047)...)},
		{strings.Repeat("\x00", 2046) + "a", list(append(slices.Repeat([]api.Term{num(0)}, 2046), num('a'))...)},
	} {
		got := Of(x.s)
		if !Right(got) || !reflect.DeepEqual(got, x.want) {
			t.Errorf("%d: %s", i, Text(got))
		}
	}
	for i, s := range []string{
		strings.Repeat("a", 1366), strings.Repeat("\x00", 2048), strings.Repeat("\x00", 2045) + "aa",
		strings.Repeat("a", 4096), strings.Repeat("\x00", 1<<20),
	} {
		if got := Of(s); !zero(got) {
			t.Errorf("%d: of size %d", i, Size(got))
		}
	}
}

// P2.3
func TestTexts(t *testing.T) {
	big, _ := whole.Parse("-340282366920938463463374607431768211456")
	for i, x := range []struct {
		t    api.Term
		want string
	}{
		{num(0), "0"}, {num(-5), "-5"}, {big, "-340282366920938463463374607431768211456"},
		{ref(0), "#Ref<0>"}, {ref(1 << 40), "#Ref<1099511627776>"}, {pid(7), "<7>"},
		{fun(7), "#Fun<7>"}, {fun(16384, num(1), list()), "#Fun<16384>"},
		{tuple(), "{}"}, {tuple(num(1)), "{1}"}, {tuple(num(1), tuple(), atom("if")), "{1,{},'if'}"},
		{list(), "[]"}, {list(num(1)), "[1]"}, {list(list(), list(num(1), pid(2))), "[[],[1,<2>]]"},
		{improper(num(2), num(1)), "[1|2]"}, {improper(tuple(list()), num(1), num(2)), "[1,2|{[]}]"},
		{tuple(atom("a"), improper(atom("b"), num(1), num(2))), "{a,[1,2|b]}"},
		{nested(num(0), 4000), strings.Repeat("{", 4000) + "0" + strings.Repeat("}", 4000)},
	} {
		if s := Text(x.t); s != x.want {
			t.Errorf("%d: %s, not %s", i, s, x.want)
		}
	}
}

// P2.3
func TestTextsOfAtoms(t *testing.T) {
	for s, want := range map[string]string{
		"a": "a", "z": "z", "a_@9Z": "a_@9Z", "azAZ09": "azAZ09", "ifs": "ifs", "i": "i",
		"else": "else", "throw": "throw", "bnot": "bnot", "receiv": "receiv", "true": "true",
		"": "''", "A": "'A'", "_a": "'_a'", "@a": "'@a'", "9": "'9'", "a b": "'a b'", "a.b": "'a.b'", "a-": "'a-'", "IF": "'IF'",
		"`": "'`'", "{": "'{'", "a{": "'a{'", "a`": "'a`'", "a[": "'a['", "a/": "'a/'", "a:": "'a:'",
		"\x00": `'\x00'`, "\x1f": `'\x1f'`, "\x20": "' '", "~": "'~'", "\x7f": `'\x7f'`, "\x80": `'\x80'`, "\xff": `'\xff'`, "\xab": `'\xab'`,
		"\t": `'\x09'`, "\r": `'\x0d'`, "\n": `'\n'`, "'": `'\''`, `\`: `'\\'`, `\n`: `'\\n'`, "a\n'\\": `'a\n\'\\'`, "\"": `'"'`, "é": `'\xc3\xa9'`,
		strings.Repeat("\x01", 40): "'" + strings.Repeat(`\x01`, 40) + "'",
		strings.Repeat("a", 40):    strings.Repeat("a", 40),
	} {
		if got := Text(atom(s)); got != want {
			t.Errorf("%q: %s, not %s", s, got, want)
		}
	}
	for _, s := range strings.Fields("after and andalso begin case div end fun if not of or orelse receive rem try catch when xor") {
		if got := Text(atom(s)); got != "'"+s+"'" {
			t.Errorf("the word %s: %s", s, got)
		}
	}
}

// P2.1: Copy is for any term.
func TestCopyIsTheSame(t *testing.T) {
	for i, x := range rights() {
		if c := Copy(x.term); !Same(c, x.term) || !reflect.DeepEqual(c, x.term) {
			t.Errorf("right, %d: %s", i, Text(c))
		}
	}
	odd := api.Term{Kind: 9, Neg: true, Limbs: []uint32{0, 0}, Text: strings.Repeat("a", 99), Num: -1, Items: []api.Term{{}, list(api.Term{Neg: true})}, Tail: []api.Term{num(1), {Tail: []api.Term{atom("a")}}}}
	for i, x := range []api.Term{{}, odd, tuple(odd, odd), list(make([]api.Term, 1<<17)...), tuple(slices.Repeat([]api.Term{tuple(num(1), num(2))}, 1<<16)...)} {
		if c := Copy(x); !reflect.DeepEqual(c, x) {
			t.Errorf("not right, %d", i)
		}
	}
}

// R1: the copy ends, and goes down as its model does.
func TestCopyOfTermsWithoutEnd(t *testing.T) {
	for _, kind := range []api.Kind{api.Tuple, api.List, api.Fun, 0} {
		x := looped(kind)
		c := Copy(x)
		clear(x.Items) // what is handed in leads nowhere any more: the copy has all of it
		for range 1 << 17 {
			if c.Kind != kind || len(c.Items) != 2 || len(c.Tail) != 0 {
				t.Fatal(c.Kind, len(c.Items), len(c.Tail))
			}
			side := c.Items[1]
			if side.Kind != api.List || len(side.Items) != 1 || len(side.Tail) != 1 || side.Tail[0].Kind != kind {
				t.Fatal(side.Kind, len(side.Items), len(side.Tail))
			}
			c = c.Items[0]
		}
	}
	c := Copy(doubled(200))
	for range 200 {
		if c.Kind != api.Tuple || len(c.Items) != 2 {
			t.Fatal(c.Kind, len(c.Items))
		}
		c = c.Items[1]
	}
	if len(c.Items) != 0 {
		t.Error(len(c.Items))
	}
	c = Copy(nested(num(1), 1<<18))
	for range 1 << 18 {
		c = c.Items[0]
	}
	if Text(c) != "1" {
		t.Error(Text(c))
	}
}

// spoil overwrites all that a term leads to.
func spoil(t api.Term) {
	for i := range t.Limbs {
		t.Limbs[i] = 0xdead
	}
	for _, row := range [][]api.Term{t.Items, t.Tail} {
		for i := range row {
			spoil(row[i])
			row[i] = api.Term{Kind: 99}
		}
	}
}

// count says how many items, tails and limbs there are that spoil has not overwritten.
func count(t api.Term) int {
	n := len(t.Limbs)
	for _, row := range [][]api.Term{t.Items, t.Tail} {
		for _, x := range row {
			if x.Kind != 99 {
				n += 1 + count(x)
			}
		}
	}
	return n
}

// R3, and the language's rule 7: an answer shares no memory with an argument, nor with itself.
func TestAnswersAreNewMemory(t *testing.T) {
	inner := list(num(5), tuple(num(1<<40)))
	model := func() api.Term {
		x := improper(tuple(num(3)), num(7), tuple(num(8), atom("a")), fun(1, num(9)))
		return Copy(x)
	}
	for name, f := range map[string]func(x api.Term) []api.Term{
		"Copy":           func(x api.Term) []api.Term { return []api.Term{Copy(x)} },
		"Cons to a list": func(x api.Term) []api.Term { return []api.Term{Cons(x.Items[1], x)} },
		"Cons to a tail": func(x api.Term) []api.Term { return []api.Term{Cons(x, x.Items[1])} },
		"Split":          func(x api.Term) []api.Term { h, r, _ := Split(x); return []api.Term{h, r} },
		"Split off one": func(x api.Term) []api.Term {
			h, r, _ := Split(api.Term{Kind: api.List, Items: x.Items[2:], Tail: x.Tail})
			return []api.Term{h, r}
		},
		"Of": func(x api.Term) []api.Term { return []api.Term{Of("ab"), Of("ab")} },
	} {
		x := model()
		got := f(x)
		if !reflect.DeepEqual(x, model()) {
			t.Errorf("%s: the argument is changed", name)
		}
		want := Text(tuple(got...))
		spoil(x)
		if s := Text(tuple(got...)); s != want {
			t.Errorf("%s: %s, and then %s", name, want, s)
		}
		for i := range got {
			others := tuple(slices.Delete(slices.Clone(got), i, i+1)...)
			n := count(others)
			spoil(got[i])
			if count(others) != n {
				t.Errorf("%s: two results share memory", name)
			}
			got = f(model())
		}
	}
	for name, c := range map[string]api.Term{
		"Copy": Copy(tuple(inner, inner)), "Cons": Cons(inner, inner), "Cons to a tail": Cons(tuple(inner), tuple(inner)),
	} {
		second := c.Items[len(c.Items)-1]
		if len(c.Tail) > 0 {
			second = c.Tail[0]
		}
		n := count(second)
		spoil(c.Items[0])
		if count(second) != n {
			t.Errorf("%s: two parts share memory", name)
		}
	}
	b := Of("aa")
	spoil(b.Items[0])
	if Text(b.Items[1]) != "97" {
		t.Error("Of: two items share memory")
	}
}

// made is a term by chance, of at most about size.
func made(r *rand.Rand, size int) api.Term {
	if size < 2 {
		switch r.Intn(5) {
		case 0, 1:
			return num(int64(r.Intn(5) - 2))
		case 2:
			return atom([]string{"", "a", "b", "if", "a,b", "[]", "'", "1", "{}", "\\", "\\'", "\n"}[r.Intn(12)])
		case 3:
			return tuple()
		default:
			return list()
		}
	}
	var items []api.Term
	for range 1 + r.Intn(3) {
		items = append(items, made(r, size/3))
	}
	switch r.Intn(3) {
	case 0:
		return tuple(items...)
	case 1:
		return list(items...)
	default:
		if tail := made(r, size/3); tail.Kind != api.List {
			return improper(tail, items...)
		}
		return list(items...)
	}
}

func madeTerms() []api.Term {
	r := rand.New(rand.NewSource(1))
	var out []api.Term
	for i := range 300 {
		out = append(out, made(r, i%12))
	}
	return out
}

// P2.4
func TestSameIsCompareAndText(t *testing.T) {
	l := madeTerms()
	for _, a := range l {
		for _, b := range l {
			c := Compare(a, b)
			if c != -Compare(b, a) || Same(a, b) != (c == 0) || Same(a, b) != (Text(a) == Text(b)) || Same(a, b) != reflect.DeepEqual(a, b) {
				t.Fatalf("%s, %s: %d, %v", Text(a), Text(b), c, Same(a, b))
			}
		}
	}
	slices.SortFunc(l, Compare)
	for i := range l {
		for k := i; k < len(l); k++ {
			if Compare(l[i], l[k]) > 0 {
				t.Fatalf("%s, %s: no order", Text(l[i]), Text(l[k]))
			}
		}
	}
}

// P2.4
func TestConsAndSplitUndoOneAnother(t *testing.T) {
	l := append(madeTerms(), rising()...)
	for _, a := range l {
		for _, b := range l {
			h, r, ok := Split(Cons(a, b))
			if !ok || !reflect.DeepEqual(h, a) || !reflect.DeepEqual(r, b) {
				t.Fatalf("%s, %s: %s, %s, %v", Text(a), Text(b), Text(h), Text(r), ok)
			}
		}
		if h, r, ok := Split(a); ok && !reflect.DeepEqual(Cons(h, r), a) {
			t.Fatalf("%s: %s, %s", Text(a), Text(h), Text(r))
		}
	}
}

// The chapter's examples.
func TestExamples(t *testing.T) {
	x := tuple(atom("a"), improper(atom("b"), num(1), num(2)))
	if Size(x) != 10 || Text(x) != "{a,[1,2|b]}" {
		t.Errorf("%d, %s", Size(x), Text(x))
	}
	if Compare(improper(num(2), num(1)), list(num(1))) != -1 || Compare(list(num(1)), list(num(1), num(1))) != -1 {
		t.Error("lists out of order")
	}
	for want, x := range map[string]api.Term{"'a b'": atom("a b"), "'if'": atom("if"), "''": atom(""), `'\x00'`: atom("\x00"), "<7>": pid(7), "#Ref<7>": ref(7), "#Fun<7>": fun(7), "[]": list()} {
		if s := Text(x); s != want {
			t.Errorf("%s, not %s", s, want)
		}
	}
}
