package bif

import (
	"slices"

	"pigeonhole/api"
	"pigeonhole/term"
	"pigeonhole/whole"
)

// ofList is for what asks for a proper list alone.
func ofList(name string, list api.Term) (value api.Term, why string) {
	if !proper(list) {
		return api.Term{}, badArg
	}
	items := list.Items
	switch name {
	case "length":
		return whole.Of(int64(len(items))), none
	case "last":
		return itemAt(whole.Of(int64(len(items))), list, api.List)
	case "sum":
		return total(items)
	case "list_to_tuple":
		return row(api.Tuple, items...), none
	case "list_to_atom":
		return asAtom(items)
	case "list_to_integer":
		return asInteger(items)
	case "reverse":
		turned := slices.Clone(items)
		slices.Reverse(turned)
		return row(api.List, turned...), none
	case "sort":
		return row(api.List, sorted(items)...), none
	default:
		return row(api.List, slices.CompactFunc(sorted(items), term.Same)...), none
	}
}

func sorted(items []api.Term) []api.Term {
	out := slices.Clone(items)
	slices.SortFunc(out, term.Compare)
	return out
}

func ofTuple(name string, tuple api.Term) (value api.Term, why string) {
	switch {
	case !are(api.Tuple, tuple):
		return api.Term{}, badArg
	case name == "tuple_size":
		return whole.Of(int64(len(tuple.Items))), none
	default:
		return row(api.List, tuple.Items...), none
	}
}

// end is a list's head, or what is behind it.
func end(name string, list api.Term) (value api.Term, why string) {
	head, rest, ok := term.Split(list)
	switch {
	case !ok:
		return api.Term{}, badArg
	case name == "hd":
		return head, none
	default:
		return rest, none
	}
}

// hasPlace says whether t is a row of that kind, a proper one, which has a place of that number.
func hasPlace(t api.Term, kind api.Kind, place api.Term) bool {
	return are(kind, t) && len(t.Tail) == 0 && within(1, len(t.Items), place)
}

// itemAt is what stands in a place of a tuple, or of a proper list.
func itemAt(place, from api.Term, kind api.Kind) (value api.Term, why string) {
	if !hasPlace(from, kind, place) {
		return api.Term{}, badArg
	}
	return from.Items[number(place)-1], none
}

// withItem is the tuple with t in that place.
func withItem(place, tuple, t api.Term) (value api.Term, why string) {
	if !hasPlace(tuple, api.Tuple, place) {
		return api.Term{}, badArg
	}
	items := slices.Clone(tuple.Items)
	items[number(place)-1] = t
	return row(api.Tuple, items...), none
}

// behind is what a proper list has behind so many items.
func behind(count, list api.Term) (value api.Term, why string) {
	if !proper(list) || !within(0, len(list.Items), count) {
		return api.Term{}, badArg
	}
	return row(api.List, list.Items[number(count):]...), none
}

// joined is a list's items, and t behind them.
func joined(list, t api.Term) (value api.Term, why string) {
	switch {
	case !proper(list):
		return api.Term{}, badArg
	case len(list.Items) == 0:
		return t, none
	case are(api.List, t):
		return api.Term{Kind: api.List, Items: slices.Concat(list.Items, t.Items), Tail: t.Tail}, none
	default:
		return api.Term{Kind: api.List, Items: list.Items, Tail: []api.Term{t}}, none
	}
}

// among is whether t is one of the list's items.
func among(t, list api.Term) (value api.Term, why string) {
	if !proper(list) {
		return api.Term{}, badArg
	}
	size := term.Size(t)
	// The size is asked ahead of the rest: a great t is then not gone through again for each small item.
	same := func(item api.Term) bool { return term.Size(item) == size && term.Same(item, t) }
	return truth(slices.ContainsFunc(list.Items, same)), none
}

// without is the list, from which each of the others has taken the first item that is the same.
func without(list, others api.Term) (value api.Term, why string) {
	if !proper(list, others) {
		return api.Term{}, badArg
	}
	taken := taking(list.Items)
	gone := make([]bool, len(list.Items))
	for _, other := range others.Items {
		if place, ok := taken(other); ok {
			gone[place] = true
		}
	}
	var left []api.Term
	for place, item := range list.Items {
		if !gone[place] {
			left = append(left, item)
		}
	}
	return row(api.List, left...), none
}

// taking answers a closure for the place of the first item that is the same as t and was not taken yet.
// The places are sorted by their items: two great lists are not held against each other item by item.
func taking(items []api.Term) func(t api.Term) (place int, ok bool) {
	var places []int
	for place := range items {
		places = append(places, place)
	}
	slices.SortStableFunc(places, func(i, k int) int { return term.Compare(items[i], items[k]) })
	against := func(place int, t api.Term) int { return term.Compare(items[place], t) }
	taken := make([]int, len(items)) // of the same items, where the first one of them stands in places
	return func(t api.Term) (int, bool) {
		first, found := slices.BinarySearchFunc(places, t, against)
		if !found {
			return 0, false
		}
		next := first + taken[first]
		if next == len(places) || !term.Same(items[places[next]], t) {
			return 0, false
		}
		taken[first]++
		return places[next], true
	}
}
