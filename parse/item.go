package parse

import (
	"strconv"

	"pigeonhole/api"
)

// together: how operators that bind alike go together in a row.
type together uint8

const (
	fromLeft together = iota
	fromRight
	never // one of them stands alone
)

// operator stands between two items; of a greater strength, it binds more strongly.
type operator struct {
	text     string
	strength int
	goes     together
}

const (
	weakest   = 1
	strongest = 8
)

var operators = [...]operator{
	{"=", weakest, fromRight},
	{"!", 2, fromRight},
	{"orelse", 3, fromLeft},
	{"andalso", 4, fromLeft},
	{"==", 5, never}, {"/=", 5, never}, {"=:=", 5, never}, {"=/=", 5, never},
	{"<", 5, never}, {"=<", 5, never}, {">", 5, never}, {">=", 5, never},
	{"++", 6, fromRight}, {"--", 6, fromRight},
	{"+", 7, fromLeft}, {"-", 7, fromLeft}, {"or", 7, fromLeft}, {"xor", 7, fromLeft},
	{"*", strongest, fromLeft}, {"div", strongest, fromLeft}, {"rem", strongest, fromLeft}, {"and", strongest, fromLeft},
}

// inside is how strongly what stands to the operator's right binds at least.
func (o operator) inside() int {
	if o.goes == fromRight {
		return o.strength
	}
	return o.strength + 1
}

// behind is how strongly an operator binds at most that takes all this for its left side.
func (o operator) behind() int {
	if o.goes == fromLeft {
		return o.strength
	}
	return o.strength - 1
}

func (o operator) join(at int, a, b api.Node) api.Node {
	if o.text == "=" {
		return parent(api.NodeMatch, at, a, b)
	}
	n := parent(api.NodeOp, at, a, b)
	n.Text = o.text
	return n
}

// operator takes the next token, if it is an operator that binds so strongly.
func (r *reader) operator(least, most int) (operator, bool) {
	for i := range operators {
		o := operators[i]
		if least <= o.strength && o.strength <= most && r.takes(o.text) {
			return o, true
		}
	}
	return operator{}, false
}

func (r *reader) item() api.Node {
	return r.joined(weakest)
}

// joined reads one item or more, with operators between that bind so strongly at least.
// Where it begins may be a bracket around the first one: that is not where the first one begins.
func (r *reader) joined(least int) api.Node {
	at := r.here()
	return r.joinedTo(at, r.unary(), least)
}

// joinedTo reads what stands behind the first item: operators, each with an item behind it.
// It stands apart from joined, as that one takes its room on the stack anew for each item within an item.
func (r *reader) joinedTo(at int, n api.Node, least int) api.Node {
	most := strongest
	for {
		o, ok := r.operator(least, most)
		if !ok {
			return n
		}
		n = o.join(at, n, r.joined(o.inside()))
		most = o.behind()
	}
}

func (r *reader) unary() api.Node {
	if r.sees("-", "+", "not") {
		return r.signed()
	}
	return r.call()
}

func (r *reader) signed() api.Node {
	sign := r.token(api.TokSign, api.TokWord)
	n := parent(api.NodeOp, sign.At, r.unary())
	n.Text = sign.Text
	return n
}

func (r *reader) call() api.Node {
	at := r.here()
	n := r.primary()
	for r.takes("(") {
		n = parent(api.NodeCall, at, append([]api.Node{n}, r.items(")")...)...)
	}
	return n
}

func (r *reader) primary() api.Node {
	at := r.here()
	switch {
	case r.takes("("):
		return r.bracketed()
	case r.takes("{"):
		return parent(api.NodeTuple, at, r.items("}")...)
	case r.takes("["):
		return r.list(at)
	case r.takes("fun"):
		return r.fun(at)
	case r.takes("case"):
		return r.choice(at)
	case r.takes("if"):
		return parent(api.NodeIf, at, r.clauses(r.test)...)
	case r.takes("receive"):
		return r.receive(at)
	case r.takes("try"):
		return r.try(at)
	case r.takes("begin"):
		return r.begin(at)
	default:
		return r.leaf(api.TokInt, api.TokAtom, api.TokVar, api.TokText)
	}
}

// What follows reads the rest of an item whose first token, at that place, is taken already.

func (r *reader) bracketed() api.Node {
	n := r.item()
	r.wants(")")
	return n
}

func (r *reader) list(at int) api.Node {
	n := parent(api.NodeList, at)
	if r.takes("]") {
		return n
	}
	n.Kids = r.row(",", r.item)
	switch {
	case r.takes("|"):
		n.Num = 1
		n.Kids = append(n.Kids, r.item())
	case len(n.Kids) == 1 && r.takes("||"):
		n.Kind = api.NodeComp
		n.Kids = append(n.Kids, r.row(",", r.gen)...)
	}
	r.wants("]")
	return n
}

func (r *reader) gen() api.Node {
	at := r.here()
	n := r.item()
	if !r.takes("<-") {
		return n
	}
	return parent(api.NodeGen, at, n, r.item())
}

func (r *reader) fun(at int) api.Node {
	if r.sees("(") {
		return parent(api.NodeFun, at, r.clauses(r.head)...)
	}
	name := r.token(api.TokAtom)
	r.wants("/")
	return api.Node{Kind: api.NodeName, Text: name.Text, Num: r.arity(), At: at}
}

// arity takes the next token, which must be an integer that a byte has room for.
func (r *reader) arity() int {
	says, err := strconv.ParseUint(r.next().Text, 10, 8)
	if err != nil {
		r.fail()
	}
	r.token(api.TokInt)
	return int(says)
}

func (r *reader) choice(at int) api.Node {
	of := r.item()
	r.wants("of")
	return parent(api.NodeCase, at, r.clauses(r.clause, of)...)
}

func (r *reader) receive(at int) api.Node {
	n := parent(api.NodeReceive, at)
	if !r.sees("after") {
		n.Kids = r.row(";", r.clause)
	}
	if r.sees("after") {
		n.Num = 1
		n.Kids = append(n.Kids, r.after())
	}
	r.wants("end")
	return n
}

func (r *reader) try(at int) api.Node {
	body := r.body()
	r.wants("catch")
	return parent(api.NodeTry, at, r.clauses(r.caught, body)...)
}

func (r *reader) begin(at int) api.Node {
	n := r.body()
	n.At = at
	r.wants("end")
	return n
}
