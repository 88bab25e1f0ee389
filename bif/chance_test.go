package bif_test

import (
	"math/big"
	"math/rand"
	"slices"
	"testing"

	"pigeonhole/api"
	"pigeonhole/bif"
	"pigeonhole/term"
)

// holds asks that the call comes to what the chapter says once more.
func holds(t *testing.T, name string, args ...api.Term) {
	t.Helper()
	if got, want := called(name, args...), said(name, args...); got != want {
		t.Errorf("%s of %s: %s, not %s", name, short(args), cut(got), cut(want))
	}
}

// P10.1: each name of terms of each kind, in each place.
func TestEachKindInEachPlace(t *testing.T) {
	terms := kinds()
	for _, s := range signatures() {
		args := make([]api.Term, s.arity)
		var fill func(place int)
		fill = func(place int) {
			if place == s.arity {
				holds(t, s.name, args...)
				return
			}
			for _, args[place] = range terms {
				fill(place + 1)
			}
		}
		if s.arity < 3 {
			fill(0)
			continue
		}
		for _, args[0] = range terms {
			for _, args[1] = range terms {
				for _, args[2] = range []api.Term{num(0), most, atom("a"), list(), improper(atom("b"), pid(1)), fun(1, ref(1))} {
					holds(t, s.name, args...)
				}
			}
		}
	}
}

// integers are of all lengths, the ends of 64 bits and of 32 limbs among them, with each sign.
func integers(r *rand.Rand) []api.Term {
	out := []api.Term{num(0), power(1024, -1), power(1024, -2), power(1023, 0), power(1023, -1), power(512, 0), power(512, -1), power(511, 0)}
	for _, n := range []uint{0, 1, 2, 3, 31, 32, 33, 62, 63, 64, 65, 96, 992, 993} {
		out = append(out, power(n, -1), power(n, 0), power(n, 1))
	}
	for n := range 30 {
		out = append(out, fromBig(new(big.Int).Rand(r, new(big.Int).Lsh(big.NewInt(1), uint(n*n+1)))))
	}
	for _, x := range out {
		out = append(out, negated(x))
	}
	return out
}

// P10.1
func TestIntegers(t *testing.T) {
	l := integers(rand.New(rand.NewSource(10)))
	for _, a := range l {
		for _, name := range []string{"+", "-", "abs", "integer_to_list", "is_integer"} {
			holds(t, name, a)
		}
		text, _, _ := bif.Call("integer_to_list", []api.Term{a})
		gives(t, a, "list_to_integer", text)
		for _, b := range l {
			for _, name := range []string{"+", "-", "*", "div", "rem", "==", "<", ">=", "max", "min"} {
				holds(t, name, a, b)
			}
			holds(t, "seq", a, b)
			holds(t, "sum", list(a, b))
			holds(t, "sum", list(a, b, a, b))
		}
	}
}

// made is a term by chance, of few kinds of parts, so that same ones come often.
func made(r *rand.Rand, size int) api.Term {
	if size < 2 {
		return []api.Term{
			num(0), num(1), num(1), num(2), num(3), num(-1), power(40, 0), most, atom("a"), atom("b"), atom("true"), atom("false"),
			ref(1), ref(2), pid(1), pid(2), fun(1), fun(1, num(1)), fun(2), tuple(), list(), spelled("12"), spelled("-1"),
		}[r.Intn(23)]
	}
	var items []api.Term
	for range 1 + r.Intn(4) {
		items = append(items, made(r, size/3))
	}
	switch r.Intn(6) {
	case 0:
		return tuple(items...)
	case 1:
		if tail := made(r, size/3); tail.Kind != api.List {
			return improper(tail, items...)
		}
		return list(items...)
	case 2:
		return fun(r.Intn(3), items...)
	default:
		return list(items...)
	}
}

// few is a proper list of at most so many items, of which many are the same.
func few(r *rand.Rand, most int) api.Term {
	size := r.Intn(4) * r.Intn(4)
	var items []api.Term
	for range r.Intn(most + 1) {
		items = append(items, made(r, size))
	}
	return list(items...)
}

// P10.1
func TestByChance(t *testing.T) {
	r := rand.New(rand.NewSource(11))
	known := signatures()
	for range 60000 {
		s := known[r.Intn(len(known))]
		var args []api.Term
		for range s.arity {
			switch r.Intn(3) {
			case 0:
				args = append(args, made(r, r.Intn(12)))
			case 1:
				args = append(args, few(r, 12))
			default:
				args = append(args, num(int64(r.Intn(9)-2)))
			}
		}
		holds(t, s.name, args...)
	}
}

// P10.1: what takes items away, or asks for them, of lists in which most come more than once.
func TestItemsThatComeMoreThanOnce(t *testing.T) {
	r := rand.New(rand.NewSource(12))
	for range 2500 {
		a, b := few(r, 30), few(r, 30)
		holds(t, "--", a, b)
		holds(t, "--", a, a)
		holds(t, "member", made(r, r.Intn(4)), a)
		holds(t, "usort", a)
		holds(t, "sort", a)
	}
}

func value(t *testing.T, name string, args ...api.Term) api.Term {
	t.Helper()
	v, raised, ok := bif.Call(name, args)
	if !ok || !zero(raised) {
		t.Errorf("%s of %s: %s", name, short(args), shown(v, raised, ok))
	}
	return v
}

// P10.2: a sorted list is sorted, and has the items that it was made of.
func TestSortedIsSorted(t *testing.T) {
	r := rand.New(rand.NewSource(13))
	for range 1500 {
		a := few(r, 40)
		sorted, unique := value(t, "sort", a), value(t, "usort", a)
		if !slices.IsSortedFunc(sorted.Items, term.Compare) || len(sorted.Items) != len(a.Items) {
			t.Errorf("sort of %s: %s", term.Text(a), term.Text(sorted))
		}
		for i := range unique.Items[min(1, len(unique.Items)):] {
			if term.Compare(unique.Items[i], unique.Items[i+1]) >= 0 {
				t.Errorf("usort of %s: %s", term.Text(a), term.Text(unique))
			}
		}
		for _, item := range a.Items {
			gives(t, atom("true"), "member", item, sorted)
			gives(t, atom("true"), "member", item, unique)
		}
		gives(t, list(), "--", a, sorted)
		gives(t, list(), "--", sorted, a)
		gives(t, list(), "--", unique, a)
		gives(t, sorted, "sort", sorted)
		gives(t, unique, "usort", sorted)
		gives(t, unique, "sort", unique)
		gives(t, sorted, "sort", value(t, "reverse", a))
	}
}

// P10.2: what is put behind can be taken away again.
func TestPutBehindAndTakenAway(t *testing.T) {
	r := rand.New(rand.NewSource(14))
	for range 1500 {
		a, b := few(r, 20), few(r, 20)
		both := value(t, "++", a, b)
		gives(t, b, "--", both, a)
		gives(t, value(t, "sort", a), "sort", value(t, "--", both, b))
		gives(t, b, "nthtail", num(int64(len(a.Items))), both)
		turned := value(t, "reverse", both)
		gives(t, value(t, "reverse", a), "nthtail", num(int64(len(b.Items))), turned)
		gives(t, value(t, "reverse", a), "--", turned, value(t, "reverse", b))
		gives(t, turned, "++", value(t, "reverse", b), value(t, "reverse", a))
		gives(t, both, "tuple_to_list", value(t, "list_to_tuple", both))
		gives(t, a, "++", a, list())
		gives(t, a, "++", list(), a)
		one := made(r, 4)
		gives(t, one, "last", value(t, "++", a, list(one)))
	}
}
