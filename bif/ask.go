package bif

import (
	"slices"

	"pigeonhole/api"
	"pigeonhole/whole"
)

// all says whether something holds of each of the terms.
func all(holds func(api.Term) bool, terms ...api.Term) bool {
	return !slices.ContainsFunc(terms, func(t api.Term) bool { return !holds(t) })
}

// are says whether each of the terms is of that kind.
func are(kind api.Kind, terms ...api.Term) bool {
	return all(func(t api.Term) bool { return t.Kind == kind }, terms...)
}

// booleans says whether each of the terms is true or false.
func booleans(terms ...api.Term) bool {
	return all(func(t api.Term) bool { return are(api.Atom, t) && (t.Text == "true" || t.Text == "false") }, terms...)
}

// proper says whether each of the terms is a proper list.
func proper(terms ...api.Term) bool {
	return all(func(t api.Term) bool { return are(api.List, t) && len(t.Tail) == 0 }, terms...)
}

// within says whether each of the terms is an integer from low to high.
func within(low, high int, terms ...api.Term) bool {
	return all(func(t api.Term) bool {
		n, ok := whole.Int(t)
		return ok && int64(low) <= n && n <= int64(high)
	}, terms...)
}

// natural says whether each of the terms is an integer from 0 on, however great.
func natural(terms ...api.Term) bool {
	return all(func(t api.Term) bool { return are(api.Int, t) && !t.Neg }, terms...)
}
