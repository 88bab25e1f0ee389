package match

import (
	"slices"

	"pigeonhole/api"
	"pigeonhole/term"
)

// part is a pattern, and the place of what it is to match.
type part struct {
	pattern *api.Core
	of      place
	over    bool // of a PatBoth: both of its Kids have matched
}

// matching is what comes of the parts that have matched so far. None of them comes to nothing later on: where one does not match, the whole does not.
type matching struct {
	vars  Vars
	given map[int]place // what variables have been given
	deeds []deed        // all that was done to variables
	done  map[part]span // which of these a PatBoth did, by the part that ends it
}

// deed is what a pattern does to a variable: it asks whether it has a value, or gives it one.
type deed struct {
	num   int
	value place
	gives bool
}

// span is where deeds stand: from one to ahead of another.
type span struct{ from, to int }

// open is the end of a span to which deeds are added still.
const open = -1

// matches says whether all of a pattern matches.
// What is still to be matched stands in a row, the next part last: patterns may be deeper than the stack has room for.
func (m *matching) matches(first part) bool {
	var todo []part
	row := func(parts ...part) bool {
		for _, next := range slices.Backward(parts) {
			todo = append(todo, next)
		}
		return true
	}
	holds := row(first)
	for holds && len(todo) > 0 {
		next := todo[len(todo)-1]
		todo = todo[:len(todo)-1]
		holds = m.matchesOne(next, row)
	}
	return holds
}

// matchesOne says whether a part matches, but for those right within it, which it hands to row.
func (m *matching) matchesOne(p part, row func(parts ...part) bool) bool {
	kids := p.pattern.Kids
	switch p.pattern.Kind {
	case api.PatAny:
		return true
	case api.PatBind:
		return m.do(deed{p.pattern.Num, p.of, true})
	case api.PatSame:
		return m.do(deed{p.pattern.Num, p.of, false})
	case api.PatConst:
		return term.Same(p.pattern.Term, p.of.term())
	case api.PatTuple:
		items, ok := p.of.items()
		return ok && len(kids) == len(items) && row(parts(kids, items...)...)
	case api.PatCons:
		head, rest, ok := p.of.split()
		return ok && len(kids) == 2 && row(parts(kids, head, rest)...)
	case api.PatBoth:
		return len(kids) == 2 && m.both(p, row)
	default:
		return false
	}
}

// parts is patterns and as many places, one by one.
func parts(patterns []api.Core, of ...place) []part {
	out := make([]part, len(patterns))
	for i := range out {
		out[i] = part{pattern: &patterns[i], of: of[i]}
	}
	return out
}

// both matches a PatBoth of two Kids, or, once these have matched, says which deeds were theirs.
// PatBoths alone lead to one place more than once. They may have Kids in common, small in memory and without number as a tree, or lead back into themselves: so each one is gone through once for a place.
func (m *matching) both(p part, row func(parts ...part) bool) bool {
	over := part{pattern: p.pattern, of: p.of, over: true}
	known, met := m.done[over]
	switch {
	case p.over:
		m.done[over] = span{known.from, len(m.deeds)}
		return true
	case met:
		return known.to != open && m.repeat(over, known)
	}
	m.done[over] = span{len(m.deeds), open}
	return row(append(parts(p.pattern.Kids, p.of, p.of), over)...)
}

// repeat does once more what a PatBoth did in a place: all else that it asks for holds as it did.
func (m *matching) repeat(over part, known span) bool {
	from := len(m.deeds)
	holds := m.do(shortened(m.deeds[known.from:known.to])...)
	m.done[over] = span{from, len(m.deeds)} // no more than those ahead, and mostly fewer
	return holds
}

// do does deeds, as long as they can be done.
func (m *matching) do(deeds ...deed) bool {
	for _, d := range deeds {
		if !m.can(d) {
			return false
		}
		if d.gives {
			m.given[d.num] = d.value
		}
		m.deeds = append(m.deeds, d)
	}
	return true
}

// can says whether there is such a variable, or, where it is asked, whether it has that value.
func (m *matching) can(d deed) bool {
	if d.gives {
		return m.vars.exists(d.num)
	}
	if given, ok := m.given[d.num]; ok {
		return given == d.value || term.Same(given.term(), d.value.term())
	}
	value, ok := m.vars.value(d.num)
	return ok && term.Same(value, d.value.term())
}

// shortened is what deeds that were done come to: of each variable what was asked of it ahead of all else, and what it was given last.
func shortened(deeds []deed) []deed {
	var out []deed
	met := map[int]struct{}{}
	isFirst := func(num int) bool {
		_, again := met[num]
		met[num] = struct{}{}
		return !again
	}
	for _, d := range deeds {
		if isFirst(d.num) && !d.gives {
			out = append(out, d)
		}
	}
	clear(met)
	for _, d := range slices.Backward(deeds) {
		if d.gives && isFirst(d.num) {
			out = append(out, d)
		}
	}
	return out
}
