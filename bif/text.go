package bif

import (
	"strings"

	"pigeonhole/api"
	"pigeonhole/term"
	"pigeonhole/whole"
)

const digits = "0123456789"

// spelled is the bytes of an atom, or of an integer's text.
func spelled(name string, a api.Term) (value api.Term, why string) {
	switch {
	case name == "atom_to_list" && are(api.Atom, a):
		return term.Of(a.Text), none
	case name == "integer_to_list" && are(api.Int, a):
		return term.Of(whole.Text(a)), none
	default:
		return api.Term{}, badArg
	}
}

// text is the items as bytes, if they are such.
func text(items []api.Term) (s string, ok bool) {
	if !within(0, 255, items...) {
		return "", false
	}
	var out strings.Builder
	for _, item := range items {
		out.WriteByte(byte(number(item)))
	}
	return out.String(), true
}

// asAtom is the atom of these bytes, which is not right, if they are too many.
func asAtom(items []api.Term) (value api.Term, why string) {
	s, ok := text(items)
	if !ok {
		return api.Term{}, badArg
	}
	return atom(s), none
}

// asInteger is the integer that the items say: unlike whole.Parse it takes a + and noughts ahead.
func asInteger(items []api.Term) (value api.Term, why string) {
	s, ok := text(items)
	said, minus := strings.CutPrefix(s, "-")
	if !minus {
		said = strings.TrimPrefix(s, "+")
	}
	if !ok || said == "" || strings.Trim(said, digits) != "" {
		return api.Term{}, badArg
	}
	said = strings.TrimLeft(said, "0")
	if said == "" {
		return whole.Of(0), none
	}
	if minus {
		said = "-" + said
	}
	return fitting(whole.Parse(said))
}
