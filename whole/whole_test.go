package whole

import (
	"math"
	"math/big"
	"reflect"
	"slices"
	"strings"
	"testing"

	"pigeonhole/api"
)

// The library's integers are what the package is held against.

func toBig(t api.Term) *big.Int {
	n := new(big.Int)
	for i := len(t.Limbs) - 1; i >= 0; i-- {
		n.Lsh(n, 32)
		n.Or(n, big.NewInt(int64(t.Limbs[i])))
	}
	if t.Neg {
		n.Neg(n)
	}
	return n
}

func fromBig(n *big.Int) api.Term {
	t := api.Term{Kind: api.Int, Neg: n.Sign() < 0}
	rest := new(big.Int).Abs(n)
	for rest.Sign() > 0 {
		t.Limbs = append(t.Limbs, uint32(new(big.Int).And(rest, big.NewInt(math.MaxUint32)).Uint64()))
		rest.Rsh(rest, 32)
	}
	return t
}

// power is 2^n + more.
func power(n uint, more int64) *big.Int {
	p := new(big.Int).Lsh(big.NewInt(1), n)
	return p.Add(p, big.NewInt(more))
}

func fits(n *big.Int) bool { return n.BitLen() <= 32*api.MaxLimbs }

func same(a, b api.Term) bool {
	return a.Kind == b.Kind && a.Neg == b.Neg && slices.Equal(a.Limbs, b.Limbs) &&
		a.Text == b.Text && a.Num == b.Num && len(a.Items)+len(a.Tail)+len(b.Items)+len(b.Tail) == 0
}

func isZero(t api.Term) bool { return reflect.DeepEqual(t, api.Term{}) }

// samples are integers of all lengths, with limbs at which digits are guessed
// wrongly and carries go far; each of them with both signs.
func samples() []api.Term {
	edge := []uint32{0, 1, 2, 0x7fffffff, 0x80000000, 0x80000001, 0xfffffffe, 0xffffffff}
	seed := uint32(12345)
	next := func() uint32 {
		seed = seed*1664525 + 1013904223
		return seed>>16 | seed<<16
	}
	out := []api.Term{{Kind: api.Int}}
	add := func(limbs ...uint32) {
		if limbs[len(limbs)-1] == 0 {
			return
		}
		out = append(out, api.Term{Kind: api.Int, Limbs: limbs}, api.Term{Kind: api.Int, Neg: true, Limbs: slices.Clone(limbs)})
	}
	for _, a := range edge {
		add(a)
		for _, b := range edge {
			add(a, b)
		}
	}
	for _, n := range []int{3, 4, 15, 16, 17, 31, 32} {
		for _, a := range edge[1:] {
			add(append(slices.Repeat([]uint32{0}, n-1), a)...)
			add(append(slices.Repeat([]uint32{math.MaxUint32}, n-1), a)...)
		}
		for range 3 {
			wild, edges := make([]uint32, n), make([]uint32, n)
			for i := range n {
				wild[i], edges[i] = next(), edge[next()%8]
			}
			wild[n-1] |= 1
			edges[n-1] |= 1
			add(wild...)
			add(edges...)
		}
	}
	return out
}

// wrong are terms that are no right integers.
func wrong() []api.Term {
	one := []uint32{1}
	return []api.Term{
		{},
		{Limbs: one},
		{Kind: api.Int, Neg: true},
		{Kind: api.Int, Neg: true, Limbs: []uint32{}},
		{Kind: api.Int, Limbs: []uint32{0}},
		{Kind: api.Int, Limbs: []uint32{1, 0}},
		{Kind: api.Int, Limbs: slices.Repeat(one, api.MaxLimbs+1)},
		{Kind: api.Int, Limbs: slices.Repeat(one, 10000)},
		{Kind: api.Int, Limbs: one, Text: "a"},
		{Kind: api.Int, Limbs: one, Num: 1},
		{Kind: api.Int, Limbs: one, Num: -1},
		{Kind: api.Int, Limbs: one, Items: []api.Term{{}}},
		{Kind: api.Int, Limbs: one, Tail: []api.Term{{}}},
		{Kind: api.Atom, Text: "a"},
		{Kind: api.Atom, Limbs: one},
		{Kind: api.Ref, Num: 1},
		{Kind: api.Fun, Num: 1},
		{Kind: api.Pid, Num: 1},
		{Kind: api.Tuple},
		{Kind: api.List},
		{Kind: 8, Limbs: one},
		{Kind: 255, Limbs: one},
	}
}

// P1.1

func TestRight(t *testing.T) {
	for _, x := range samples() {
		if !Right(x) {
			t.Error("not right:", x)
		}
	}
	empty := api.Term{Kind: api.Int, Limbs: []uint32{}, Items: []api.Term{}, Tail: []api.Term{}}
	if !Right(empty) {
		t.Error("lists without elements are nil ones")
	}
	if !Right(api.Term{Kind: api.Int, Limbs: slices.Repeat([]uint32{math.MaxUint32}, api.MaxLimbs)}) {
		t.Error("32 limbs are right")
	}
	for i, x := range wrong() {
		if Right(x) {
			t.Error("right:", i, x)
		}
	}
}

func TestOf(t *testing.T) {
	for _, c := range []struct {
		n     int64
		neg   bool
		limbs []uint32
	}{
		{0, false, nil},
		{1, false, []uint32{1}},
		{-1, true, []uint32{1}},
		{1<<32 - 1, false, []uint32{0xffffffff}},
		{1 << 32, false, []uint32{0, 1}},
		{-1 << 32, true, []uint32{0, 1}},
		{math.MaxInt64, false, []uint32{0xffffffff, 0x7fffffff}},
		{-math.MaxInt64, true, []uint32{0xffffffff, 0x7fffffff}},
		{math.MinInt64, true, []uint32{0, 0x80000000}},
	} {
		got := Of(c.n)
		if !same(got, api.Term{Kind: api.Int, Neg: c.neg, Limbs: c.limbs}) {
			t.Error(c.n, got)
		}
		if n, ok := Int(got); n != c.n || !ok {
			t.Error(c.n, n, ok)
		}
	}
}

func TestInt(t *testing.T) {
	for _, x := range samples() {
		n, ok := Int(x)
		if b := toBig(x); b.IsInt64() != ok || ok && b.Int64() != n || !ok && n != 0 {
			t.Error(b, n, ok)
		}
	}
	low := new(big.Int).Neg(power(63, 1))
	for _, b := range []*big.Int{power(63, 0), low, power(64, -1), power(64, 0), power(1023, 0)} {
		if n, ok := Int(fromBig(b)); n != 0 || ok {
			t.Error("no number of 64 bits:", b, n, ok)
		}
	}
	if n, ok := Int(fromBig(power(63, -1))); n != math.MaxInt64 || !ok {
		t.Error(n, ok)
	}
	if n, ok := Int(fromBig(new(big.Int).Neg(power(63, 0)))); n != math.MinInt64 || !ok {
		t.Error(n, ok)
	}
}

func TestCompare(t *testing.T) {
	all := samples()
	for _, a := range all {
		for _, b := range all {
			if got, want := Compare(a, b), toBig(a).Cmp(toBig(b)); got != want {
				t.Fatal(toBig(a), toBig(b), got, want)
			}
		}
	}
}

// P1.2

func checkOne(t *testing.T, what string, got api.Term, ok bool, want *big.Int) {
	t.Helper()
	switch {
	case ok != fits(want):
		t.Error(what, ok, want)
	case ok && !same(got, fromBig(want)):
		t.Error(what, got, want)
	case !ok && !isZero(got):
		t.Error(what, "not a zero term:", got)
	}
}

func TestReckoning(t *testing.T) {
	all := samples()
	for _, a := range all {
		x := toBig(a)
		for _, b := range all {
			y := toBig(b)
			s, ok := Add(a, b)
			checkOne(t, "Add", s, ok, new(big.Int).Add(x, y))
			d, ok := Sub(a, b)
			checkOne(t, "Sub", d, ok, new(big.Int).Sub(x, y))
			p, ok := Times(a, b)
			checkOne(t, "Times", p, ok, new(big.Int).Mul(x, y))
			if y.Sign() == 0 {
				continue
			}
			wantQ, wantR := new(big.Int).QuoRem(x, y, new(big.Int))
			q, r, ok := Div(a, b)
			if !ok || !same(q, fromBig(wantQ)) || !same(r, fromBig(wantR)) {
				t.Error("Div", x, y, q, r, ok)
			}
		}
		if t.Failed() {
			return
		}
	}
}

func TestRoom(t *testing.T) {
	greatest, lowest := power(1024, -1), new(big.Int).Neg(power(1024, -1))
	half := power(1023, 0)
	for _, c := range []struct {
		what string
		call func(a, b api.Term) (api.Term, bool)
		a, b *big.Int
		ok   bool
	}{
		{"Add", Add, greatest, big.NewInt(0), true},
		{"Add", Add, greatest, big.NewInt(1), false},
		{"Add", Add, greatest, big.NewInt(-1), true},
		{"Add", Add, lowest, big.NewInt(1), true},
		{"Add", Add, lowest, big.NewInt(-1), false},
		{"Add", Add, greatest, lowest, true},
		{"Add", Add, half, half, false},
		{"Sub", Sub, lowest, big.NewInt(1), false},
		{"Sub", Sub, greatest, big.NewInt(-1), false},
		{"Sub", Sub, greatest, greatest, true},
		{"Sub", Sub, greatest, lowest, false},
		{"Times", Times, half, big.NewInt(2), false},
		{"Times", Times, half, big.NewInt(-2), false},
		{"Times", Times, power(1022, 0), big.NewInt(-2), true},
		{"Times", Times, power(512, 0), power(511, 0), true},
		{"Times", Times, power(512, 0), power(512, 0), false},
		{"Times", Times, power(512, -1), power(512, 1), true},
		{"Times", Times, greatest, greatest, false},
		{"Times", Times, greatest, big.NewInt(0), true},
		{"Times", Times, lowest, big.NewInt(-1), true},
	} {
		got, ok := c.call(fromBig(c.a), fromBig(c.b))
		if ok != c.ok || ok != Right(got) || !ok && !isZero(got) {
			t.Error(c.what, c.a, c.b, got, ok)
		}
	}
}

func TestDiv(t *testing.T) {
	for _, c := range []struct{ a, b, q, r int64 }{
		{7, 2, 3, 1}, {-7, 2, -3, -1}, {7, -2, -3, 1}, {-7, -2, 3, -1},
		{6, 2, 3, 0}, {-6, 2, -3, 0}, {6, -2, -3, 0}, {-6, -2, 3, 0},
		{1, 2, 0, 1}, {-1, 2, 0, -1}, {1, -2, 0, 1}, {-1, -2, 0, -1},
		{0, 5, 0, 0}, {0, -5, 0, 0}, {5, 5, 1, 0}, {5, -5, -1, 0},
	} {
		q, r, ok := Div(Of(c.a), Of(c.b))
		if !ok || !same(q, Of(c.q)) || !same(r, Of(c.r)) {
			t.Error(c, q, r, ok)
		}
	}
	q, r, ok := Div(Of(math.MinInt64), Of(-1))
	if !ok || !same(q, fromBig(power(63, 0))) || !same(r, Of(0)) {
		t.Error(q, r, ok)
	}
	for _, a := range samples() {
		if q, r, ok := Div(a, Of(0)); ok || !isZero(q) || !isZero(r) {
			t.Error("by 0:", a, q, r, ok)
		}
	}
}

// P1.3

func TestText(t *testing.T) {
	for _, x := range samples() {
		s := Text(x)
		if s != toBig(x).String() {
			t.Error(s, toBig(x))
		}
		if y, ok := Parse(s); !ok || !same(x, y) {
			t.Error(s, y, ok)
		}
	}
	for n := int64(1); n < 1e18; n *= 10 {
		for _, m := range []int64{n, n - 1, n + 1, -n} {
			if s := Text(Of(m)); s != big.NewInt(m).String() {
				t.Error(m, s)
			}
		}
	}
	if s := Text(fromBig(power(64, 0))); s != "18446744073709551616" {
		t.Error(s)
	}
	if s := Text(fromBig(new(big.Int).Neg(power(63, 0)))); s != "-9223372036854775808" {
		t.Error(s)
	}
}

func TestParse(t *testing.T) {
	for _, s := range []string{
		"0", "1", "-1", "9", "10", "-10", "4294967295", "4294967296", "-4294967297",
		"9223372036854775807", "9223372036854775808", "-9223372036854775808", "-9223372036854775809",
		power(1024, -1).String(), "-" + power(1024, -1).String(), power(992, 0).String(),
	} {
		want, _ := new(big.Int).SetString(s, 10)
		if x, ok := Parse(s); !ok || !same(x, fromBig(want)) || !Right(x) || Text(x) != s {
			t.Error(s, x, ok)
		}
	}
	for _, s := range []string{
		"", "-", "--", "-0", "00", "007", "-007", "-00", "+1", "+", "+0", "--1", "-+1", "1-", "1-1",
		" 1", "1 ", "- 1", "\t1", "1\n", "1a", "a", "a1", "0x1", "1_000", "1,000", "1.0", "1e3", "1.", "0-",
		"/", ":", "1/", "1:", "\x00", "1\x00", "\xff", "1\xff", "\u0661", "\uff11", "\u22121",
		power(1024, 0).String(), "-" + power(1024, 0).String(),
		"0" + power(1024, -1).String(),
		power(1056, 0).String(), "1" + strings.Repeat("0", 309),
		strings.Repeat("9", 1<<20), "-" + strings.Repeat("9", 1<<20),
		strings.Repeat("0", 1<<20), strings.Repeat("-", 1<<20),
		strings.Repeat("9", 400) + "a",
	} {
		if x, ok := Parse(s); ok || !isZero(x) {
			t.Errorf("%.40q: %v", s, ok)
		}
	}
}

// P1.4

func TestWhatFollows(t *testing.T) {
	all := samples()
	for i, a := range all {
		for _, b := range all[i:] {
			s, ok1 := Add(a, b)
			z, ok2 := Add(b, a)
			if ok1 != ok2 || !same(s, z) {
				t.Fatal("sums hang on the order:", a, b)
			}
			s, ok1 = Times(a, b)
			z, ok2 = Times(b, a)
			if ok1 != ok2 || !same(s, z) {
				t.Fatal("products hang on the order:", a, b)
			}
			checkParts(t, a, b)
			checkParts(t, b, a)
		}
		if t.Failed() {
			return
		}
	}
}

// checkParts asks for a = b * q + r, by the package's own calls.
func checkParts(t *testing.T, a, b api.Term) {
	t.Helper()
	q, r, ok := Div(a, b)
	if ok != (len(b.Limbs) > 0) {
		t.Error("Div", a, b, ok)
	}
	if !ok {
		return
	}
	part, ok1 := Times(b, q)
	back, ok2 := Add(part, r)
	if !ok1 || !ok2 || Compare(back, a) != 0 {
		t.Error("b times q, and r, is not a:", a, b, q, r)
	}
	if Compare(size(r), size(b)) >= 0 || len(r.Limbs) > 0 && r.Neg != a.Neg {
		t.Error("rest:", a, b, r)
	}
}

func size(t api.Term) api.Term {
	t.Neg = false
	return t
}

// Of arguments that are not right: zero values, false (Compare: 0; Text: nothing).
func TestNotRight(t *testing.T) {
	others := append(wrong(), Of(0), Of(1), Of(-1), fromBig(power(1024, -1)))
	for i, x := range wrong() {
		if n, ok := Int(x); n != 0 || ok {
			t.Error("Int", i, n, ok)
		}
		if s := Text(x); s != "" {
			t.Error("Text", i, s)
		}
		for j, y := range others {
			checkNotRight(t, i, j, x, y)
			checkNotRight(t, j, i, y, x)
		}
	}
}

func checkNotRight(t *testing.T, i, j int, a, b api.Term) {
	t.Helper()
	if n := Compare(a, b); n != 0 {
		t.Error("Compare", i, j, n)
	}
	if x, ok := Add(a, b); ok || !isZero(x) {
		t.Error("Add", i, j, x, ok)
	}
	if x, ok := Sub(a, b); ok || !isZero(x) {
		t.Error("Sub", i, j, x, ok)
	}
	if x, ok := Times(a, b); ok || !isZero(x) {
		t.Error("Times", i, j, x, ok)
	}
	if q, r, ok := Div(a, b); ok || !isZero(q) || !isZero(r) {
		t.Error("Div", i, j, q, r, ok)
	}
}

// R3: what is handed out may be written over, up to its capacity, and neither
// an argument nor another answer is another one then.
func TestNewMemory(t *testing.T) {
	all := samples()
	for _, a := range all {
		for _, b := range []api.Term{Of(0), Of(1), Of(-1), a, all[len(all)-1]} {
			a1, b1 := clone(a), clone(b)
			answers := reckon(a, b)
			kept := make([]api.Term, len(answers))
			for i, x := range answers {
				kept[i] = clone(x)
			}
			for i, x := range answers {
				if !same(x, kept[i]) {
					t.Fatal("two answers share limbs:", a1, b1, i)
				}
				spoil(x)
			}
			if !same(a, a1) || !same(b, b1) {
				t.Fatal("an argument is changed:", a1, b1)
			}
		}
	}
	x := Of(5)
	spoil(x)
	if !same(Of(5), api.Term{Kind: api.Int, Limbs: []uint32{5}}) {
		t.Error("Of hands out what it keeps")
	}
}

func reckon(a, b api.Term) []api.Term {
	s, _ := Add(a, b)
	d, _ := Sub(a, b)
	p, _ := Times(a, b)
	q, r, _ := Div(a, b)
	parsed, _ := Parse(Text(a))
	Compare(a, b)
	return []api.Term{s, d, p, q, r, parsed}
}

func clone(t api.Term) api.Term {
	t.Limbs = slices.Clone(t.Limbs)
	return t
}

func spoil(t api.Term) {
	whole := t.Limbs[:cap(t.Limbs)]
	for i := range whole {
		whole[i] = 77
	}
}

// R6: a 0 whose limbs are an empty list is the 0 whose limbs are nil.
func TestEmptyLists(t *testing.T) {
	zero := api.Term{Kind: api.Int, Limbs: []uint32{}, Items: []api.Term{}, Tail: []api.Term{}}
	if n, ok := Int(zero); n != 0 || !ok || Text(zero) != "0" || Compare(zero, Of(0)) != 0 {
		t.Error(n, ok, Text(zero))
	}
	if x, ok := Add(zero, Of(3)); !ok || !same(x, Of(3)) {
		t.Error(x, ok)
	}
	if x, ok := Sub(zero, zero); !ok || !same(x, Of(0)) {
		t.Error(x, ok)
	}
	if x, ok := Times(zero, Of(-3)); !ok || !same(x, Of(0)) {
		t.Error(x, ok)
	}
	if _, _, ok := Div(Of(1), zero); ok {
		t.Error("by 0")
	}
}
