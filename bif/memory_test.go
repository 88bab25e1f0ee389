package bif_test

import (
	"slices"
	"testing"

	"pigeonhole/api"
	"pigeonhole/bif"
	"pigeonhole/term"
)

// spoil writes over all memory of a term, what stands behind the ends of its lists too.
func spoil(t api.Term) {
	limbs := t.Limbs[:cap(t.Limbs)]
	for i := range limbs {
		limbs[i] ^= 0x55555555
	}
	for _, row := range [][]api.Term{t.Items, t.Tail} {
		for _, x := range row {
			spoil(x)
		}
		row = row[:cap(row)]
		for i := range row {
			row[i] = atom("spoiled")
		}
	}
}

// memoryCases are arguments of each name with each arity, which come to something great where they can.
func memoryCases(t *testing.T) map[signature][][]api.Term {
	// Made anew for each name: what is spoiled is spoiled for this one alone.
	things := func() []api.Term {
		return read(t, `5, -5, 2, 1, 0, Most, a, true, false, P, R, G, {{a, [Most]}, {b}, Most}, [{c}, [a, Most], [b | c], {c}, Most], [Most, 5, -5], "12", "-18446744073709551616", [[Most | G]], [{c} | {Most}], []`)
	}
	out := map[signature][][]api.Term{}
	for _, s := range signatures() {
		n := len(things())
		for i := range n {
			for k := range n {
				args := []api.Term{things()[i], things()[k], tuple(list(most), fun(1, most))}[:s.arity]
				out[s] = append(out[s], args)
				if s.arity == 1 {
					break
				}
			}
		}
	}
	return out
}

func both(value, raised api.Term) api.Term { return tuple(value, raised) }

// R3: no argument is changed or kept; what is handed out is new memory.
func TestMemory(t *testing.T) {
	for s, cases := range memoryCases(t) {
		for _, args := range cases {
			given := term.Copy(tuple(args...))
			before := entire(given)
			want := called(s.name, given.Items...)
			if entire(given) != before {
				t.Errorf("%s of %s: an argument was changed: %s", s.name, short(args), entire(given))
			}
			// The arguments are changed behind the call.
			value, raised, ok := bif.Call(s.name, given.Items)
			spoil(given)
			if got := shown(value, raised, ok); got != want {
				t.Errorf("%s of %s: it hangs on an argument: %s, not %s", s.name, short(args), got, want)
			}
			// The answer is changed: neither the arguments nor the next answer is.
			given = term.Copy(tuple(args...))
			value, raised, _ = bif.Call(s.name, given.Items)
			spoil(both(value, raised))
			if entire(given) != before {
				t.Errorf("%s of %s: its answer shares memory with an argument", s.name, short(args))
			}
			if got := called(s.name, given.Items...); got != want {
				t.Errorf("%s of %s: at the second time %s, not %s", s.name, short(args), got, want)
			}
		}
	}
}

// R3: no two lists of an answer share memory, even where those of the arguments do.
func TestPartsOfAnAnswerShareNothing(t *testing.T) {
	limbs := slices.Clone(most.Limbs)
	x := api.Term{Kind: api.Int, Limbs: limbs}
	inner := []api.Term{x, x}
	twins := list(tuple(inner...), list(inner...), tuple(inner...))
	for name, args := range map[string][]api.Term{
		"++": {twins, twins}, "--": {twins, list(list(inner...))}, "setelement": {num(1), tuple(twins.Items...), tuple(inner...)},
		"tl": {twins}, "nthtail": {num(1), twins}, "reverse": {twins}, "sort": {twins}, "list_to_tuple": {twins}, "tuple_to_list": {tuple(twins.Items...)},
		"throw": {twins}, "max": {twins, twins}, "hd": {list(twins)}, "last": {list(twins)}, "nth": {num(1), list(twins)}, "element": {num(1), tuple(twins)},
	} {
		value, raised, ok := bif.Call(name, args)
		answer := value
		if name == "throw" {
			answer = raised.Items[1]
		}
		if !ok || len(answer.Items) < 2 {
			t.Errorf("%s: %s", name, shown(value, raised, ok))
			continue
		}
		for i := range answer.Items {
			fresh, again, _ := bif.Call(name, args)
			if name == "throw" {
				fresh = again.Items[1]
			}
			texts := func() []string {
				var out []string
				for k, item := range fresh.Items {
					if k != i {
						out = append(out, term.Text(item))
					}
				}
				return out
			}
			before := texts()
			spoil(fresh.Items[i])
			if !slices.Equal(texts(), before) {
				t.Errorf("%s: the item %d shares memory with another", name, i)
			}
		}
	}
}

// R1: what leads back into itself is no right term, and the call ends; the same list in two places is none such.
func TestSameListTwice(t *testing.T) {
	l := list(num(1), atom("a"), list(num(1)))
	gives(t, list(), "--", l, l)
	gives(t, list(slices.Concat(l.Items, l.Items)...), "++", l, l)
	gives(t, atom("true"), "==", l, l)
	gives(t, atom("true"), "member", l, list(l, l))
	gives(t, tuple(tuple(l, l), l), "setelement", num(1), tuple(l, l), tuple(l, l))
}
