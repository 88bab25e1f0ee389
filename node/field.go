package node

import "pigeonhole/api"

const (
	maxDigits = 400
	maxText   = 400
	maxNamed  = 255 // the arity of a function that a NodeName names
)

// operators are told apart by how many items they stand with.
var operators = [...]struct {
	text  string
	items uint8
}{
	{"-", 1}, {"+", 1}, {"not", 1},
	{"!", 2}, {"orelse", 2}, {"andalso", 2},
	{"==", 2}, {"/=", 2}, {"=:=", 2}, {"=/=", 2}, {"<", 2}, {"=<", 2}, {">", 2}, {">=", 2},
	{"++", 2}, {"--", 2},
	{"+", 2}, {"-", 2}, {"or", 2}, {"xor", 2},
	{"*", 2}, {"div", 2}, {"rem", 2}, {"and", 2},
}

// rightFields says whether n's fields beside its Kids are right; its Kids are.
func rightFields(n api.Node) bool {
	return n.At >= 0 && rightText(n) && rightNum(n)
}

func rightText(n api.Node) bool {
	switch n.Kind {
	case api.NodeInt:
		return isNumber(n.Text)
	case api.NodeAtom, api.NodeName, api.NodeFunction:
		return len(n.Text) <= api.MaxName
	case api.NodeVar:
		return isVariable(n.Text)
	case api.NodeText:
		return len(n.Text) <= maxText
	case api.NodeOp:
		return isOperator(n.Text, len(n.Kids))
	default:
		return n.Text == ""
	}
}

func rightNum(n api.Node) bool {
	switch n.Kind {
	case api.NodeList:
		return n.Num == 0 || n.Num == 1 && len(n.Kids) >= 2
	case api.NodeName:
		return 0 <= n.Num && n.Num <= maxNamed
	case api.NodeReceive:
		return (n.Num == 0 || n.Num == 1) && rightBranches(n.Kids, len(n.Kids)-n.Num)
	case api.NodeFunction:
		first := n.Kids[0]
		return n.Num == len(first.Kids[0].Kids)
	default:
		return n.Num == 0
	}
}

// rightBranches says whether so many kids of a receive are clauses, and those behind are not.
func rightBranches(kids []api.Node, clauses int) bool {
	of := func(kind api.NodeKind) func(api.Node) bool {
		return func(n api.Node) bool { return n.Kind == kind }
	}
	return all(kids[:clauses], of(api.NodeClause)) && all(kids[clauses:], of(api.NodeAfter))
}

func isNumber(s string) bool {
	return s != "" && len(s) <= maxDigits && allBytes(s, isDigit)
}

func isVariable(s string) bool {
	if s == "" || len(s) > api.MaxName || !isUpper(s[0]) && s[0] != '_' {
		return false
	}
	return allBytes(s, func(c byte) bool {
		return isUpper(c) || 'a' <= c && c <= 'z' || isDigit(c) || c == '_' || c == '@'
	})
}

func isOperator(s string, items int) bool {
	for _, o := range operators {
		if o.text == s && int(o.items) == items {
			return true
		}
	}
	return false
}

func allBytes(s string, holds func(c byte) bool) bool {
	for i := range len(s) {
		if !holds(s[i]) {
			return false
		}
	}
	return true
}

func isDigit(c byte) bool {
	return '0' <= c && c <= '9'
}

func isUpper(c byte) bool {
	return 'A' <= c && c <= 'Z'
}
