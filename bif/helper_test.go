package bif_test

import (
	"math/big"
	"reflect"
	"slices"
	"strconv"
	"strings"
	"testing"

	"pigeonhole/api"
	"pigeonhole/bif"
	"pigeonhole/parse"
	"pigeonhole/term"
	"pigeonhole/whole"
)

func num(n int64) api.Term { return whole.Of(n) }

func atom(s string) api.Term { return api.Term{Kind: api.Atom, Text: s} }

func ref(n int) api.Term { return api.Term{Kind: api.Ref, Num: n} }

func pid(n int) api.Term { return api.Term{Kind: api.Pid, Num: n} }

func fun(n int, items ...api.Term) api.Term { return api.Term{Kind: api.Fun, Num: n, Items: items} }

func tuple(items ...api.Term) api.Term { return api.Term{Kind: api.Tuple, Items: items} }

func list(items ...api.Term) api.Term { return api.Term{Kind: api.List, Items: items} }

func improper(tail api.Term, items ...api.Term) api.Term {
	return api.Term{Kind: api.List, Items: items, Tail: []api.Term{tail}}
}

func times(n int, t api.Term) []api.Term { return slices.Repeat([]api.Term{t}, n) }

// power is 2^n + more, as an integer of however many limbs.
func power(n uint, more int64) api.Term {
	p := new(big.Int).Lsh(big.NewInt(1), n)
	return fromBig(p.Add(p, big.NewInt(more)))
}

func fromBig(n *big.Int) api.Term {
	t := api.Term{Kind: api.Int, Neg: n.Sign() < 0}
	rest := new(big.Int).Abs(n)
	for rest.Sign() > 0 {
		t.Limbs = append(t.Limbs, uint32(new(big.Int).And(rest, big.NewInt(1<<32-1)).Uint64()))
		rest.Rsh(rest, 32)
	}
	return t
}

func toBig(t api.Term) *big.Int {
	n := new(big.Int)
	for _, limb := range slices.Backward(t.Limbs) {
		n.Lsh(n, 32)
		n.Or(n, big.NewInt(int64(limb)))
	}
	if t.Neg {
		n.Neg(n)
	}
	return n
}

func negated(t api.Term) api.Term { return fromBig(new(big.Int).Neg(toBig(t))) }

// most is the greatest integer; -Most in a text is the lowest one.
var most = power(1024, -1)

// named are the terms that are written as variables.
func named() map[string]api.Term {
	return map[string]api.Term{
		"P": pid(7), "Q": pid(8), "R": ref(7), "S": ref(8), "F": fun(7), "G": fun(7, atom("a")), "H": fun(8),
		"Most": most, "Less": power(1024, -2), "Half": power(1023, 0), "Third": power(512, 0),
		"Long": atom(strings.Repeat("\xff", api.MaxName)),
	}
}

// read is the terms that s writes, with commas between.
func read(t *testing.T, s string) []api.Term {
	t.Helper()
	n, fault := parse.Expr("{" + s + "}")
	if fault.Err != api.OK {
		t.Fatal(s, fault)
	}
	return valued(t, n, named()).Items
}

func valued(t *testing.T, n api.Node, vars map[string]api.Term) api.Term {
	t.Helper()
	var items []api.Term
	for _, kid := range n.Kids {
		items = append(items, valued(t, kid, vars))
	}
	switch n.Kind {
	case api.NodeInt:
		x, _ := new(big.Int).SetString(n.Text, 10)
		return fromBig(x)
	case api.NodeAtom:
		return atom(n.Text)
	case api.NodeText:
		return spelled(n.Text)
	case api.NodeTuple:
		return tuple(items...)
	case api.NodeOp:
		return negated(items[0])
	case api.NodeVar:
		if x, ok := vars[n.Text]; ok {
			return x
		}
	case api.NodeList:
		if n.Num == 1 {
			return improper(items[len(items)-1], items[:len(items)-1]...)
		}
		return list(items...)
	}
	t.Fatal("no term:", n)
	return api.Term{}
}

// spelled is the list of s's bytes.
func spelled(s string) api.Term {
	var items []api.Term
	for _, c := range []byte(s) {
		items = append(items, num(int64(c)))
	}
	return list(items...)
}

func failure(class string, reason api.Term) api.Term { return tuple(atom(class), reason) }

var (
	badArg   = failure("error", atom("badarg"))
	badArith = failure("error", atom("badarith"))
	tooGreat = failure("error", atom("system_limit"))
)

func zero(t api.Term) bool { return reflect.DeepEqual(t, api.Term{}) }

// shown is what a call comes to, as a text: nothing, if it answers false; a ! ahead of an error.
// What may not stand beside one another in an answer is told too.
func shown(value, raised api.Term, ok bool) string {
	switch {
	case !ok && zero(value) && zero(raised):
		return ""
	case ok && zero(raised) && term.Right(value):
		return entire(value)
	case ok && zero(value) && term.Right(raised):
		return "! " + entire(raised)
	default:
		return "neither a value nor an error: " + term.Text(value) + " and " + term.Text(raised) + ", " + strconv.FormatBool(ok)
	}
}

// entire is a term's text, with the parts of funs, which term.Text leaves out.
func entire(t api.Term) string {
	var parts []string
	var look func(t api.Term)
	look = func(t api.Term) {
		if t.Kind == api.Fun {
			parts = append(parts, term.Text(tuple(t.Items...)))
		}
		for _, item := range slices.Concat(t.Items, t.Tail) {
			look(item)
		}
	}
	look(t)
	return strings.Join(append([]string{term.Text(t)}, parts...), " ")
}

func called(name string, args ...api.Term) string { return shown(bif.Call(name, args)) }

// gives asks that the call makes that value.
func gives(t *testing.T, want api.Term, name string, args ...api.Term) {
	t.Helper()
	if got := called(name, args...); got != shown(want, api.Term{}, true) {
		t.Errorf("%s of %s: %s, not %s", name, short(args), cut(got), cut(entire(want)))
	}
}

// fails asks that the call raises that error.
func fails(t *testing.T, want api.Term, name string, args ...api.Term) {
	t.Helper()
	if got := called(name, args...); got != shown(api.Term{}, want, true) {
		t.Errorf("%s of %s: %s, not the error %s", name, short(args), cut(got), cut(entire(want)))
	}
}

// refuses asks that the call answers false.
func refuses(t *testing.T, name string, args ...api.Term) {
	t.Helper()
	if got := called(name, args...); got != "" {
		t.Errorf("%q of %d, %s: %s", name, len(args), short(args), cut(got))
	}
}

func short(args []api.Term) string {
	var texts []string
	for _, a := range args {
		texts = append(texts, cut(entire(a)))
	}
	return strings.Join(texts, ", ")
}

func cut(s string) string {
	if len(s) > 120 {
		return s[:100] + ".. (" + strconv.Itoa(len(s)) + " bytes)"
	}
	return s
}

type signature struct {
	name  string
	arity int
}

// The chapter's table, its first column.
const firstColumn = `+ - * / 2, + - / 1
div rem / 2
== =:= /= =/= / 2
< =< > >= / 2
and or xor / 2, not / 1
++ / 2
-- / 2
max min / 2
abs / 1
hd tl / 1
length / 1
element / 2
setelement / 3
tuple_size / 1
tuple_to_list list_to_tuple / 1
is_integer is_atom is_tuple is_list is_pid is_reference is_function / 1
is_boolean / 1
is_function / 2
atom_to_list / 1
list_to_atom / 1
integer_to_list / 1
list_to_integer / 1
reverse / 1
nth / 2
nthtail / 2
member / 2
sum / 1
seq / 2
sort usort / 1
last / 1
throw error exit / 1`

// signatures are the names and arities of the chapter's table.
func signatures() []signature {
	var out []signature
	for _, line := range strings.Split(firstColumn, "\n") {
		for _, group := range strings.Split(line, ", ") {
			words := strings.Fields(group)
			arity, _ := strconv.Atoi(words[len(words)-1])
			for _, name := range words[:len(words)-2] {
				out = append(out, signature{name, arity})
			}
		}
	}
	return out
}

// worldly are the names that ask the world.
var worldly = []signature{
	{"self", 0}, {"make_ref", 0}, {"now", 0},
	{"spawn", 1}, {"spawn_link", 1}, {"spawn_monitor", 1}, {"link", 1}, {"unlink", 1}, {"monitor", 1}, {"demonitor", 1},
	{"trap_exit", 1}, {"unregister", 1}, {"whereis", 1}, {"print", 1},
	{"!", 2}, {"exit", 2}, {"register", 2},
}

// kinds are right terms of each kind, the edges of what may be among them.
func kinds() []api.Term {
	return []api.Term{
		num(0), num(1), num(2), num(3), num(-1), num(255), num(256), power(32, 0), power(63, -1), power(63, 0), power(64, 0), most, negated(most),
		{Kind: api.Int, Limbs: []uint32{}},
		atom(""), atom("a"), atom("true"), atom("false"), atom("True"), atom(strings.Repeat("\x00", api.MaxName)),
		ref(0), ref(1 << 40), pid(0), pid(1 << 40), fun(0), fun(api.MaxCode, atom("a"), num(1)),
		tuple(), tuple(num(1)), tuple(atom("b"), tuple(), list()), {Kind: api.Tuple, Items: []api.Term{}},
		list(), list(num(1)), list(num(3), num(1), num(2), num(1)), list(num(1), atom("a")), list(list(), tuple(), pid(1), fun(1), ref(1), atom("a"), num(1)),
		{Kind: api.List, Items: []api.Term{}, Tail: []api.Term{}},
		improper(num(1), num(1)), improper(atom("b"), num(1), num(2)), improper(tuple(list()), atom("a")),
		spelled("12"), spelled("-12"), spelled("+"), spelled("a1"), list(num(255)), list(num(256)), list(num(-1)),
		list(most, num(1)), list(negated(most), num(-1)), list(atom("true"), atom("false")),
	}
}

// flaws are terms that are not right, each for one reason.
func flaws() []api.Term {
	looped := make([]api.Term, 2)
	looped[0] = tuple(looped...)
	looped[1] = improper(looped[0], looped[0])
	looped[0].Items = looped
	endless := make([]api.Term, 1)
	endless[0] = list(endless...)
	endless[0].Items = endless
	doubled := tuple()
	for range 100 {
		doubled = tuple(doubled, doubled)
	}
	return []api.Term{
		{}, {Kind: 8}, {Kind: 255},
		{Kind: api.Int, Limbs: []uint32{0}}, {Kind: api.Int, Limbs: []uint32{1, 0}}, {Kind: api.Int, Neg: true}, {Kind: api.Int, Num: 1},
		power(1024, 0), negated(power(1024, 0)),
		atom(strings.Repeat("a", api.MaxName+1)), {Kind: api.Atom, Text: "true", Num: 1}, {Kind: api.Atom, Text: "a", Limbs: []uint32{1}},
		ref(-1), ref(1<<40 + 1), pid(-1), pid(1<<40 + 1), fun(-1), fun(api.MaxCode + 1),
		{Kind: api.Tuple, Text: "a"}, {Kind: api.Tuple, Items: []api.Term{num(1)}, Tail: []api.Term{num(1)}},
		{Kind: api.List, Tail: []api.Term{num(1)}}, improper(list(), num(1)), {Kind: api.List, Items: []api.Term{num(1)}, Tail: []api.Term{num(1), num(1)}},
		tuple(api.Term{}), list(api.Term{}), fun(1, api.Term{}), improper(api.Term{}, num(1)), list(num(1), list(tuple(api.Term{}))),
		tuple(times(api.MaxSize, atom("a"))...), list(times(2048, atom("a"))...), list(make([]api.Term, 5000)...),
		looped[0], looped[1], endless[0], doubled,
	}
}
