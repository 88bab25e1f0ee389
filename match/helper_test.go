package match_test

import (
	"reflect"
	"slices"
	"strconv"
	"strings"
	"testing"

	"pigeonhole/api"
	"pigeonhole/match"
	"pigeonhole/parse"
	"pigeonhole/term"
	"pigeonhole/whole"
)

func num(n int64) api.Term { return whole.Of(n) }

func atom(s string) api.Term { return api.Term{Kind: api.Atom, Text: s} }

func ref(n int) api.Term { return api.Term{Kind: api.Ref, Num: n} }

func pid(n int) api.Term { return api.Term{Kind: api.Pid, Num: n} }

func fun(n int, items ...api.Term) api.Term { return api.Term{Kind: api.Fun, Num: n, Items: items} }

func tuple(items ...api.Term) api.Term { return api.Term{Kind: api.Tuple, Items: items} }

func list(items ...api.Term) api.Term { return api.Term{Kind: api.List, Items: items} }

func improper(tail api.Term, items ...api.Term) api.Term {
	return api.Term{Kind: api.List, Items: items, Tail: []api.Term{tail}}
}

func times[T any](n int, x T) []T { return slices.Repeat([]T{x}, n) }

// most is the greatest integer.
var most = api.Term{Kind: api.Int, Limbs: times(api.MaxLimbs, ^uint32(0))}

// named are the terms that are written as variables.
func named() map[string]api.Term {
	return map[string]api.Term{
		"P": pid(7), "Q": pid(8), "R": ref(7), "S": ref(8), "F": fun(7), "G": fun(7, atom("a")), "H": fun(7, atom("b")),
		"Most": most,
	}
}

// read is the term that s writes.
func read(t *testing.T, s string) api.Term {
	t.Helper()
	n, fault := parse.Expr(s)
	if fault.Err != api.OK {
		t.Fatal(s, fault)
	}
	return valued(t, n)
}

func valued(t *testing.T, n api.Node) api.Term {
	t.Helper()
	var items []api.Term
	for _, kid := range n.Kids {
		items = append(items, valued(t, kid))
	}
	switch n.Kind {
	case api.NodeInt:
		x, _ := whole.Parse(n.Text)
		return x
	case api.NodeAtom:
		return atom(n.Text)
	case api.NodeText:
		return term.Of(n.Text)
	case api.NodeTuple:
		return tuple(items...)
	case api.NodeOp:
		x, _ := whole.Sub(num(0), items[0])
		return x
	case api.NodeVar:
		return named()[n.Text]
	case api.NodeList:
		if n.Num == 1 {
			return improper(items[len(items)-1], items[:len(items)-1]...)
		}
		return list(items...)
	}
	t.Fatal("no term:", n)
	return api.Term{}
}

func of(kind api.CoreKind, kids ...api.Core) api.Core { return api.Core{Kind: kind, Kids: kids} }

func numbered(kind api.CoreKind, n int) api.Core { return api.Core{Kind: kind, Num: n} }

func wild() api.Core { return of(api.PatAny) }

func bind(n int) api.Core { return numbered(api.PatBind, n) }

func same(n int) api.Core { return numbered(api.PatSame, n) }

func is(t api.Term) api.Core { return api.Core{Kind: api.PatConst, Term: t} }

func pats(kids ...api.Core) api.Core { return of(api.PatTuple, kids...) }

func cons(kids ...api.Core) api.Core { return of(api.PatCons, kids...) }

func both(kids ...api.Core) api.Core { return of(api.PatBoth, kids...) }

func x(n int) api.Core { return numbered(api.CoreVar, n) }

func the(t api.Term) api.Core { return api.Core{Kind: api.CoreConst, Term: t} }

func row(kids ...api.Core) api.Core { return of(api.CoreTuple, kids...) }

func cell(kids ...api.Core) api.Core { return of(api.CoreCons, kids...) }

func bif(name string, kids ...api.Core) api.Core {
	return api.Core{Kind: api.CoreBif, Text: name, Kids: kids}
}

func all(kids ...api.Core) api.Core { return of(api.GuardAll, kids...) }

func some(kids ...api.Core) api.Core { return of(api.GuardAny, kids...) }

var (
	yes = the(atom("true"))
	no  = the(atom("false"))
	a   = the(atom("a"))
	bad = bif("hd", the(list())) // fails
)

// vars are variables with these values; those of a zero term have none.
func vars(values ...api.Term) match.Vars {
	out := match.Vars{}
	for _, t := range values {
		out.Has, out.Values = append(out.Has, t.Kind != 0), append(out.Values, t)
	}
	return out
}

func zero(t api.Term) bool { return reflect.DeepEqual(t, api.Term{}) }

// entire is a term's text, with what stands in funs, which term.Text leaves out; of one that is not right its fields.
func entire(t api.Term) string {
	if zero(t) {
		return "-"
	}
	if !term.Right(t) {
		return "not right"
	}
	var parts []string
	var look func(t api.Term)
	look = func(t api.Term) {
		if t.Kind == api.Fun {
			parts = append(parts, term.Text(tuple(t.Items...)))
		}
		for _, item := range slices.Concat(t.Items, t.Tail) {
			look(item)
		}
	}
	look(t)
	return strings.Join(append([]string{term.Text(t)}, parts...), "")
}

// shown is variables' values, a - for each one that has none; what may not be is told.
func shown(v match.Vars) string {
	if len(v.Has) != len(v.Values) {
		return strconv.Itoa(len(v.Has)) + " Has, " + strconv.Itoa(len(v.Values)) + " Values"
	}
	var out []string
	for i, t := range v.Values {
		switch {
		case v.Has[i]:
			out = append(out, entire(t))
		case zero(t):
			out = append(out, "-")
		default:
			out = append(out, "no value, yet "+entire(t))
		}
	}
	return strings.Join(out, " ")
}

// told is what Match answers, as a text: no, if it answers false.
func told(v match.Vars, ok bool) string {
	switch {
	case ok:
		return shown(v)
	case len(v.Has) > 0 || len(v.Values) > 0:
		return "no, and yet " + shown(v)
	default:
		return "no"
	}
}

// comes asks that Match comes to that.
func comes(t *testing.T, want string, p api.Core, of api.Term, v match.Vars) {
	t.Helper()
	if got := told(match.Match(p, of, v)); got != want {
		t.Errorf("%s of %s, with %s: %s, not %s", written(p), cut(entire(of)), cut(shown(v)), cut(got), cut(want))
	}
}

// fits asks that Match matches, and comes to these values.
func fits(t *testing.T, p api.Core, of api.Term, v match.Vars, want ...api.Term) {
	t.Helper()
	comes(t, shown(vars(want...)), p, of, v)
}

// refuses asks that Match does not match.
func refuses(t *testing.T, p api.Core, of api.Term, v match.Vars) {
	t.Helper()
	comes(t, "no", p, of, v)
}

// guards asks that Guard says so.
func guards(t *testing.T, want bool, g api.Core, v match.Vars) {
	t.Helper()
	if got := match.Guard(g, v); got != want {
		t.Errorf("%s, with %s: %v", written(g), cut(shown(v)), got)
	}
}

// values asks that a guard's expression has that value; a zero one, if it is to fail.
func values(t *testing.T, want api.Term, e api.Core, v match.Vars) {
	t.Helper()
	// Whatever its value is, this is true of it, if it has one.
	isAny := some(bif("==", e, e))
	if got := match.Guard(isAny, v); got == zero(want) {
		t.Errorf("%s, with %s: does not fail: %v", written(e), cut(shown(v)), got)
		return
	}
	if !zero(want) {
		guards(t, true, some(bif("==", e, the(want))), v)
		guards(t, false, some(bif("=/=", e, the(want))), v)
	}
	guards(t, entire(want) == "true", some(e), v)
}

// fails asks that a guard's expression fails.
func fails(t *testing.T, e api.Core, v match.Vars) {
	t.Helper()
	values(t, api.Term{}, e, v)
	guards(t, false, some(all(e)), v)
	guards(t, false, some(all(yes, e)), v)
	guards(t, false, some(all(e, yes)), v)
	guards(t, false, some(some(e, yes)), v)
	guards(t, true, some(e, yes), v)
	guards(t, true, some(yes, e), v)
	guards(t, true, some(some(yes, e)), v)
	guards(t, true, some(bif("not", all(no, e))), v)
}

// written is a node as a text, of which no more than something is told.
func written(c api.Core) string {
	var out strings.Builder
	var write func(c api.Core, depth int)
	write = func(c api.Core, depth int) {
		if out.Len() > 300 || depth > 20 {
			out.WriteString("..")
			return
		}
		out.WriteString("(" + strconv.Itoa(int(c.Kind)) + " " + c.Text + " " + strconv.Itoa(c.Num) + " " + cut(entire(c.Term)))
		for _, kid := range c.Kids {
			write(kid, depth+1)
		}
		out.WriteString(")")
	}
	write(c, 0)
	return out.String()
}

func cut(s string) string {
	if len(s) > 200 {
		return s[:150] + ".. (" + strconv.Itoa(len(s)) + " bytes)"
	}
	return s
}

// kinds are right terms of each kind, no two of them the same, some nearly so.
func kinds() []api.Term {
	return []api.Term{
		num(0), num(1), num(-1), num(1 << 32), num(-1 << 32), most,
		atom(""), atom("a"), atom("true"), atom("false"), atom("True"), atom(strings.Repeat("\xff", api.MaxName)),
		ref(0), ref(1), ref(1 << 40), pid(0), pid(1), pid(1 << 40),
		fun(0), fun(1), fun(1, atom("a")), fun(1, atom("b")), fun(api.MaxCode, list()),
		tuple(), tuple(num(1)), tuple(atom("a")), tuple(tuple()), tuple(num(1), num(1)), tuple(num(1), atom("a")), tuple(num(1), num(1), num(1)),
		list(), list(num(1)), list(atom("a")), list(list()), list(num(1), num(1)), list(num(1), atom("a")), list(num(1), list(num(1))), list(num(1), num(1), num(1)),
		improper(num(1), num(1)), improper(atom("a"), num(1)), improper(tuple(), num(1)), improper(num(1), num(1), num(1)), improper(tuple(list(num(1))), list()),
		greatTuple(api.MaxSize), greatList(api.MaxSize - 1),
	}
}

// greatTuple is one of atoms, of that size.
func greatTuple(size int) api.Term { return tuple(times(size-1, atom("a"))...) }

// greatList is one of atoms, of that size, an odd one.
func greatList(size int) api.Term { return list(times((size-1)/2, atom("a"))...) }

// flaws are terms that are not right, each for one reason.
func flaws() []api.Term {
	looped := make([]api.Term, 2)
	looped[0] = api.Term{Kind: api.Tuple, Items: looped}
	looped[1] = improper(looped[0], looped[0])
	endless := make([]api.Term, 1)
	endless[0] = api.Term{Kind: api.List, Items: endless}
	doubled := tuple()
	for range 100 {
		doubled = tuple(doubled, doubled)
	}
	return []api.Term{
		{}, {Kind: 8}, {Kind: 255},
		{Kind: api.Int, Limbs: []uint32{0}}, {Kind: api.Int, Limbs: []uint32{1, 0}}, {Kind: api.Int, Neg: true}, {Kind: api.Int, Num: 1},
		{Kind: api.Int, Limbs: times(api.MaxLimbs+1, uint32(1))},
		atom(strings.Repeat("a", api.MaxName+1)), {Kind: api.Atom, Text: "true", Num: 1}, {Kind: api.Atom, Text: "true", Neg: true}, {Kind: api.Atom, Text: "true", Items: []api.Term{num(1)}}, {Kind: api.Atom, Text: "a", Limbs: []uint32{1}},
		ref(-1), ref(1<<40 + 1), pid(-1), pid(1<<40 + 1), fun(-1), fun(api.MaxCode + 1),
		{Kind: api.Tuple, Text: "a"}, {Kind: api.Tuple, Items: []api.Term{num(1)}, Tail: []api.Term{num(1)}},
		{Kind: api.List, Tail: []api.Term{num(1)}}, improper(list(), num(1)), {Kind: api.List, Items: []api.Term{num(1)}, Tail: []api.Term{num(1), num(1)}},
		tuple(api.Term{}), list(api.Term{}), fun(1, api.Term{}), improper(api.Term{}, num(1)), list(num(1), list(tuple(api.Term{}))), tuple(atom("a"), ref(-1)),
		greatTuple(api.MaxSize + 1), greatList(api.MaxSize + 1), list(make([]api.Term, 5000)...),
		looped[0], looped[1], endless[0], doubled,
	}
}
