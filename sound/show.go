package sound

import (
	"slices"
	"strconv"
	"strings"

	"pigeonhole/api"
	"pigeonhole/term"
)

// words are those of the Kinds; what has none is no Kind.
var words = [...]string{
	api.CoreConst:   "const",
	api.CoreVar:     "var",
	api.CoreTuple:   "tuple",
	api.CoreCons:    "cons",
	api.CoreLet:     "let",
	api.CoreCall:    "call",
	api.CoreApply:   "apply",
	api.CoreBif:     "bif",
	api.CoreFun:     "fun",
	api.CoreCase:    "case",
	api.CoreReceive: "receive",
	api.CoreTry:     "try",
	api.CoreClause:  "clause",
	api.CoreFail:    "fail",
	api.PatAny:      "any",
	api.PatBind:     "bind",
	api.PatSame:     "same",
	api.PatConst:    "const",
	api.PatTuple:    "tuple",
	api.PatCons:     "cons",
	api.PatBoth:     "both",
	api.GuardAll:    "all",
	api.GuardAny:    "any",
}

// Show is c as a text; nothing, if that has no end, or is longer than the document speaks of (R7).
func Show(c api.Core) string {
	length, ok := weigh(c, func(c *api.Core) int { return len(head(c)) + len(" ()")*len(c.Kids) })
	if !ok {
		return ""
	}
	var out strings.Builder
	out.Grow(length)
	// What is still to be written stands here, the next one last; nil is a ) there.
	var todo []*api.Core
	write := func(c *api.Core) {
		out.WriteString(head(c))
		for i := range slices.Backward(c.Kids) {
			todo = append(todo, nil, &c.Kids[i])
		}
	}
	write(&c)
	for len(todo) > 0 {
		next := todo[len(todo)-1]
		todo = todo[:len(todo)-1]
		if next == nil {
			out.WriteByte(')')
			continue
		}
		out.WriteString(" (")
		write(next)
	}
	return out.String()
}

// head is what stands ahead of c's Kids. A Text that is there has its blank even if it is written as nothing, being too long for an atom.
func head(c *api.Core) string {
	out := word(c.Kind)
	put := func(text string) { out += " " + text }
	if c.Text != "" {
		put(term.Text(api.Term{Kind: api.Atom, Text: c.Text}))
	}
	if c.Num != 0 {
		put(strconv.Itoa(c.Num))
	}
	if text := term.Text(c.Term); text != "" {
		put(text)
	}
	return out
}

func word(kind api.CoreKind) string {
	if int(kind) < len(words) && words[kind] != "" {
		return words[kind]
	}
	return "?"
}
