package show

import "pigeonhole/api"

// operator stands between two items: how strongly it binds, and how strongly what stands on its left and on its right binds at least, without brackets.
type operator struct {
	text             string
	own, left, right int
}

var operators = [...]operator{
	{"=", 1, 2, 1},
	{"!", 2, 3, 2},
	{"orelse", 3, 3, 4},
	{"andalso", 4, 4, 5},
	{"==", 5, 6, 6}, {"/=", 5, 6, 6}, {"=:=", 5, 6, 6}, {"=/=", 5, 6, 6},
	{"<", 5, 6, 6}, {"=<", 5, 6, 6}, {">", 5, 6, 6}, {">=", 5, 6, 6},
	{"++", 6, 7, 6}, {"--", 6, 7, 6},
	{"+", 7, 7, 8}, {"-", 7, 7, 8}, {"or", 7, 7, 8}, {"xor", 7, 7, 8},
	{"*", 8, 8, 9}, {"div", 8, 8, 9}, {"rem", 8, 8, 9}, {"and", 8, 8, 9},
}

// How strongly those bind that have nothing between two items.
const (
	signBinds   = 9
	closedBinds = 10
)

// operatorOf is what stands between the two items of a NodeOp or a NodeMatch.
func operatorOf(n api.Node) operator {
	text := n.Text
	if n.Kind == api.NodeMatch {
		text = "="
	}
	for i := range operators {
		if operators[i].text == text {
			return operators[i]
		}
	}
	return operator{}
}

// binds is how strongly an item binds.
func binds(n api.Node) int {
	switch {
	case n.Kind != api.NodeOp && n.Kind != api.NodeMatch:
		return closedBinds
	case len(n.Kids) == 1:
		return signBinds
	default:
		return operatorOf(n).own
	}
}

// bound writes an item, in brackets, if it binds less than that.
func (w *writer) bound(n api.Node, least int) {
	if binds(n) >= least {
		w.item(n)
		return
	}
	w.put("(")
	w.item(n)
	w.put(")")
}

func (w *writer) joined(n api.Node) {
	o := operatorOf(n)
	w.bound(n.Kids[0], o.left)
	w.put(" ", o.text, " ")
	w.bound(n.Kids[1], o.right)
}

// signed writes an item with an operator ahead.
func (w *writer) signed(n api.Node) {
	w.put(n.Text)
	if n.Text == "not" || beginsWithSign(n.Kids[0]) {
		w.put(" ")
	}
	w.bound(n.Kids[0], signBinds)
}

// beginsWithSign says whether an item behind an operator of one begins with - or +: two signs, one right behind the other, may be scanned as one.
// All that binds less stands in brackets there, and nothing that binds more begins so.
func beginsWithSign(n api.Node) bool {
	return n.Kind == api.NodeOp && len(n.Kids) == 1 && n.Text != "not"
}
