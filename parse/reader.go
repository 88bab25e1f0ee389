package parse

import (
	"slices"

	"pigeonhole/api"
)

// reader reads a source's tokens, each by what may stand there behind those ahead of it.
type reader struct {
	left  []api.Token // a TokEnd is the last one, and is never taken
	fault api.Fault
}

// leaves is what the tokens that are items themselves are told as.
var leaves = [...]api.NodeKind{
	api.TokInt:  api.NodeInt,
	api.TokAtom: api.NodeAtom,
	api.TokVar:  api.NodeVar,
	api.TokText: api.NodeText,
}

func (r *reader) next() api.Token {
	return r.left[0]
}

// here is where the next token begins.
func (r *reader) here() int {
	return r.left[0].At
}

func (r *reader) atEnd() bool {
	return len(r.left) == 1
}

// fail says that the next token may not be here.
// What is left is passed over: so all that is being read finds nothing more, and comes to its end.
func (r *reader) fail() {
	if r.fault.Err == api.OK {
		r.fault = api.Fault{Err: api.ErrSyntax, At: r.here()}
	}
	r.left = r.left[len(r.left)-1:]
}

// sees says whether the next token is one of these signs and words; an atom or a text of the same bytes is not.
func (r *reader) sees(texts ...string) bool {
	t := r.next()
	return (t.Kind == api.TokSign || t.Kind == api.TokWord) && slices.Contains(texts, t.Text)
}

// takes is as sees, and the token is gone by then.
func (r *reader) takes(texts ...string) bool {
	seen := r.sees(texts...)
	if seen {
		r.left = r.left[1:]
	}
	return seen
}

// wants takes the next token, which must be one of these signs and words.
func (r *reader) wants(texts ...string) {
	if !r.takes(texts...) {
		r.fail()
	}
}

// token takes the next token, which must be of one of these kinds.
func (r *reader) token(kinds ...api.TokenKind) api.Token {
	t := r.next()
	if !slices.Contains(kinds, t.Kind) {
		r.fail()
		return api.Token{}
	}
	r.left = r.left[1:]
	return t
}

// leaf takes the next token, which must be of one of these kinds, as a node.
func (r *reader) leaf(kinds ...api.TokenKind) api.Node {
	t := r.token(kinds...)
	return api.Node{Kind: leaves[t.Kind], Text: t.Text, At: t.At}
}

// row reads one part or more, with the sign between.
func (r *reader) row(sign string, part func() api.Node) []api.Node {
	out := []api.Node{part()}
	for r.takes(sign) {
		out = append(out, part())
	}
	return out
}

// items reads items, none perhaps, and the sign that closes them.
func (r *reader) items(closing string) []api.Node {
	if r.takes(closing) {
		return nil
	}
	out := r.row(",", r.item)
	r.wants(closing)
	return out
}

// clauses reads the clauses of an item behind its other kids, and the end of them all.
func (r *reader) clauses(clause func() api.Node, ahead ...api.Node) []api.Node {
	out := append(ahead, r.row(";", clause)...)
	r.wants("end")
	return out
}
