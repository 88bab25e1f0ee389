package match_test

import (
	"math/rand"
	"reflect"
	"slices"
	"testing"

	"pigeonhole/api"
	"pigeonhole/match"
	"pigeonhole/term"
)

// spoil writes over all memory of terms, what stands behind the ends of their lists too.
func spoil(terms []api.Term) {
	for _, t := range terms {
		limbs := t.Limbs[:cap(t.Limbs)]
		for i := range limbs {
			limbs[i] ^= 0x55555555
		}
		spoil(t.Items)
		spoil(t.Tail)
	}
	terms = terms[:cap(terms)]
	for i := range terms {
		terms[i] = atom("spoiled")
	}
}

func spoilVars(v match.Vars) {
	has := v.Has[:cap(v.Has)]
	for i := range has {
		has[i] = !has[i]
	}
	spoil(v.Values)
}

func spoilNode(c api.Core) {
	spoil([]api.Term{c.Term})
	for _, kid := range c.Kids {
		spoilNode(kid)
	}
	for i := range c.Kids {
		c.Kids[i] = bind(77)
	}
}

func copiedVars(v match.Vars) match.Vars {
	out := match.Vars{Has: slices.Clone(v.Has)}
	for _, t := range v.Values {
		out.Values = append(out.Values, term.Copy(t))
	}
	return out
}

func copiedNode(c api.Core) api.Core {
	c.Term = term.Copy(c.Term)
	var kids []api.Core
	for _, kid := range c.Kids {
		kids = append(kids, copiedNode(kid))
	}
	c.Kids = kids
	return c
}

// R3: Match changes and keeps nothing of what it is given, and what it hands out is new memory.
func TestMemoryOfMatch(t *testing.T) {
	r := rand.New(rand.NewSource(31))
	matched := 0
	for range 8000 {
		x := made(r, r.Intn(60))
		p, v := copiedNode(patternOf(r, x, r.Intn(5))), copiedVars(someVars(r))
		x = term.Copy(x)
		p1, x1, v1 := copiedNode(p), term.Copy(x), copiedVars(v)
		out, ok := match.Match(p, x, v)
		if !reflect.DeepEqual(p, p1) || !reflect.DeepEqual(x, x1) || !reflect.DeepEqual(v, v1) {
			t.Fatalf("%s of %s: an argument was changed", written(p1), entire(x1))
		}
		want := told(out, ok)
		if ok {
			matched++
		}
		// The answer is changed behind the call.
		spoilVars(out)
		if !reflect.DeepEqual(p, p1) || !reflect.DeepEqual(x, x1) || !reflect.DeepEqual(v, v1) {
			t.Fatalf("%s of %s: the answer shares memory with an argument", written(p1), entire(x1))
		}
		// The arguments are changed behind the call.
		out, ok = match.Match(p, x, v)
		spoilNode(p)
		spoil([]api.Term{x})
		spoilVars(v)
		if got := told(out, ok); got != want {
			t.Fatalf("%s of %s: %s, not %s, behind changed arguments", written(p1), entire(x1), got, want)
		}
		// What was there is not remembered.
		if got := told(match.Match(p1, x1, v1)); got != want {
			t.Fatalf("%s of %s: %s, not %s, at the last time", written(p1), entire(x1), got, want)
		}
	}
	if matched < 1000 {
		t.Errorf("%d match", matched)
	}
}

// R3: no two values of an answer share memory, even where those that were given do.
func TestValuesShareNothing(t *testing.T) {
	inner := []api.Term{most, list(most), tuple(atom("b"))}
	one := tuple(inner...)
	v := vars(one, one, api.Term{}, api.Term{}, api.Term{}, one, api.Term{})
	x := list(one, one, tuple(inner...))
	p := both(bind(2), both(bind(3), cons(bind(4), cons(same(0), bind(6)))))
	for i := range v.Has {
		out, ok := match.Match(p, x, v)
		if !ok {
			t.Fatal("no")
		}
		texts := func() []string {
			var out1 []string
			for k, value := range out.Values {
				if k != i {
					out1 = append(out1, entire(value))
				}
			}
			return out1
		}
		before := texts()
		spoil(out.Values[i].Items)
		if !slices.Equal(texts(), before) {
			t.Errorf("the value %d shares memory with another", i)
		}
		if entire(one) != entire(tuple(inner...)) || entire(inner[1]) != entire(list(most)) {
			t.Fatalf("the value %d shares memory with what was given", i)
		}
	}
}

// R3: rows can be made longer without a change to others.
func TestRowsHaveTheirOwnRoom(t *testing.T) {
	has, terms := make([]bool, 4, 8), make([]api.Term, 4, 8)
	v := match.Vars{Has: has[:2], Values: terms[:2]}
	out, _ := match.Match(bind(0), num(1), v)
	out.Has, out.Values = append(out.Has, true), append(out.Values, num(9))
	if has[0] || has[2] || !zero(terms[0]) || !zero(terms[2]) {
		t.Error("the answer has the room of what was given")
	}
	again, _ := match.Match(bind(1), num(2), out)
	again.Has[0], again.Values[2] = false, num(8)
	if shown(out) != "1 - 9" || shown(match.New(2)) != "- -" {
		t.Error(shown(out))
	}
}

// R3: Guard changes and keeps nothing of what it is given.
func TestMemoryOfGuard(t *testing.T) {
	r := rand.New(rand.NewSource(32))
	for range 8000 {
		g, v := copiedNode(some(expression(r, r.Intn(5)), expression(r, r.Intn(5)))), copiedVars(someVars(r))
		g1, v1 := copiedNode(g), copiedVars(v)
		want := match.Guard(g, v)
		if !reflect.DeepEqual(g, g1) || !reflect.DeepEqual(v, v1) {
			t.Fatalf("%s: an argument was changed", written(g1))
		}
		spoilNode(g)
		spoilVars(v)
		guards(t, want, g1, v1)
	}
	// One node that is changed from call to call.
	g, v := some(bif("==", x(0), the(num(0)))), vars(num(0))
	for n := range int64(10) {
		g.Kids[0].Kids[1].Term = num(n)
		guards(t, n == 0, g, v)
		v.Values[0] = num(n)
		guards(t, true, g, v)
		v.Has[0] = false
		guards(t, false, g, v)
		v.Has[0], v.Values[0] = true, num(0)
	}
	p := both(both(bind(0), same(0)), is(num(0)))
	for n := range int64(10) {
		p.Kids[1].Term = num(n)
		fits(t, p, num(n), match.New(1), num(n))
		refuses(t, p, num(n+1), match.New(1))
	}
}

// P11.2: what a variable without a value has all the same, or a value that is no right term, is handed on as it is.
func TestWhateverVariablesHave(t *testing.T) {
	for _, flaw := range flaws() {
		v := match.Vars{Has: []bool{true, false, true}, Values: []api.Term{flaw, {}, num(1)}}
		out, ok := match.Match(bind(1), num(5), v)
		if !ok || len(out.Has) != 3 || !out.Has[0] || !out.Has[1] || !out.Has[2] || entire(out.Values[1]) != "5" || out.Values[0].Kind != flaw.Kind || len(out.Values[0].Items) != len(flaw.Items) {
			t.Errorf("%v, %v", ok, out.Has)
		}
		if len(flaw.Items) > 0 && len(out.Values) > 0 && &out.Values[0].Items[0] == &flaw.Items[0] {
			t.Error("it shares memory")
		}
	}
	comes(t, "no value, yet a 5", bind(1), num(5), match.Vars{Has: []bool{false, false}, Values: []api.Term{atom("a"), atom("b")}})
}
