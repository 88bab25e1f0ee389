package core

import (
	"cmp"
	"maps"
	"slices"

	"pigeonhole/api"
)

// scope is the variables that names stand for.
type scope map[string]int

// captured is the names that stand within the rows, by their variables, rising.
func (s scope) captured(rows ...[]api.Node) []string {
	found := scope{}
	var look func(row []api.Node)
	look = func(row []api.Node) {
		for _, n := range row {
			if known, ok := s[n.Text]; ok && n.Kind == api.NodeVar {
				found[n.Text] = known
			}
			look(n.Kids)
		}
	}
	for _, row := range rows {
		look(row)
	}
	return slices.SortedFunc(maps.Keys(found), func(a, b string) int {
		return cmp.Compare(found[a], found[b])
	})
}

// of is the variables of names.
func (s scope) of(names []string) []api.Core {
	var out []api.Core
	for _, name := range names {
		out = append(out, variable(s[name]))
	}
	return out
}

// numbered is the scope of a helper that has these names as its first parameters.
func numbered(names []string) scope {
	out := scope{}
	for i, name := range names {
		out[name] = i
	}
	return out
}
