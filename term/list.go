package term

import (
	"pigeonhole/api"
	"pigeonhole/whole"
)

// Cons is the list of h and, behind it, t.
func Cons(h, t api.Term) api.Term {
	if !Right(h) || !Right(t) {
		return api.Term{}
	}
	first := []api.Term{h}
	if t.Kind != api.List {
		return fitting(api.Term{Kind: api.List, Items: fresh(first), Tail: fresh([]api.Term{t})})
	}
	return fitting(api.Term{Kind: api.List, Items: fresh(first, t.Items), Tail: fresh(t.Tail)})
}

// fitting is t, or a zero term, if t is not right: too great, that is, where its parts are right.
func fitting(t api.Term) api.Term {
	if !Right(t) {
		return api.Term{}
	}
	return t
}

// Split is a list's first item, and the rest behind it.
func Split(t api.Term) (h, r api.Term, ok bool) {
	if t.Kind != api.List || len(t.Items) == 0 || !Right(t) {
		return api.Term{}, api.Term{}, false
	}
	return Copy(t.Items[0]), rest(t), true
}

// rest is what a list has behind its first item.
func rest(list api.Term) api.Term {
	if len(list.Items) == 1 {
		return Copy(tailOf(list))
	}
	return api.Term{Kind: api.List, Items: fresh(list.Items[1:]), Tail: fresh(list.Tail)}
}

// Of is the list of s's bytes, as integers.
func Of(s string) api.Term {
	// Each byte takes at least 2: a long text has its answer without being gone through.
	if len(s) > api.MaxSize/2 {
		return api.Term{}
	}
	var items []api.Term
	for i := range len(s) {
		items = append(items, whole.Of(int64(s[i])))
	}
	return fitting(api.Term{Kind: api.List, Items: items})
}
