package match

import "pigeonhole/api"

// place is where a part of a term stands: it is what in leads to, or, if from is not 0, the rest of that list behind so many items.
// A list's rests are told by numbers, so that none of them is copied ahead of being bound, and that each has one place alone.
type place struct {
	in   *api.Term
	from int
}

// term is what stands there. It shares the memory of the whole.
func (p place) term() api.Term {
	switch p.from {
	case 0:
		return *p.in
	case len(p.in.Items):
		return api.Term{Kind: api.List}
	default:
		return api.Term{Kind: api.List, Items: p.in.Items[p.from:], Tail: p.in.Tail}
	}
}

// items are the places of a tuple's items, if a tuple stands there.
func (p place) items() ([]place, bool) {
	if p.in.Kind != api.Tuple {
		return nil, false
	}
	out := make([]place, len(p.in.Items))
	for i := range out {
		out[i].in = &p.in.Items[i]
	}
	return out, true
}

// split is the places of a list's first item and of the rest behind it, if a list with items stands there.
func (p place) split() (head, rest place, ok bool) {
	if p.in.Kind != api.List || p.from == len(p.in.Items) {
		return place{}, place{}, false
	}
	head, rest = place{in: &p.in.Items[p.from]}, place{p.in, p.from + 1}
	if rest.from == len(p.in.Items) && len(p.in.Tail) > 0 {
		rest = place{in: &p.in.Tail[0]}
	}
	return head, rest, true
}
