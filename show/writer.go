package show

import (
	"strings"

	"pigeonhole/api"
	"pigeonhole/term"
)

// writer gathers the text of a right tree: what a kind of node may have is not asked for again.
type writer struct {
	strings.Builder
}

func (w *writer) put(texts ...string) {
	for _, text := range texts {
		w.WriteString(text)
	}
}

// row writes the nodes, with a text between.
func (w *writer) row(row []api.Node, between string, each func(n api.Node)) {
	for i, n := range row {
		if i > 0 {
			w.put(between)
		}
		each(n)
	}
}

// items writes a row of items: those of a body stand so, too.
func (w *writer) items(row []api.Node) {
	w.row(row, ", ", w.item)
}

func (w *writer) enclosed(opening string, row []api.Node, closing string) {
	w.put(opening)
	w.items(row)
	w.put(closing)
}

// atom writes a name as terms have it.
func (w *writer) atom(name string) {
	w.put(term.Text(api.Term{Kind: api.Atom, Text: name}))
}

func (w *writer) text(s string) {
	w.put(`"`)
	for i := range len(s) {
		w.quoted(s[i])
	}
	w.put(`"`)
}

// quoted writes a byte as it stands between a text's quotes.
func (w *writer) quoted(c byte) {
	const digits = "0123456789abcdef"
	switch {
	case c == '\\' || c == '"':
		w.put(`\`, string([]byte{c}))
	case c == '\n':
		w.put(`\n`)
	case c < 32 || c > 126:
		w.put(`\x`, string([]byte{digits[c>>4], digits[c&15]}))
	default:
		w.WriteByte(c)
	}
}
