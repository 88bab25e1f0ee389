package lint_test

import (
	"slices"

	"pigeonhole/api"
	"pigeonhole/lint"
)

// P7.2 once more, in another way, to be held against the program: a clause is told as a row of things in the order in which they are come to, each with the parts around it; what is in scope is asked of the row.

// partKind: what is around something.
type partKind int

const (
	counted partKind = iota // a clause of a case, if, receive or try, a try's or a begin's body
	closed                  // a fun's clause, a comprehension: what is bound there counts for nothing elsewhere
	after                   // an after's body
)

// part is one that names which are bound in it are not in scope behind.
type part struct {
	kind   partKind
	number int // no two have the same
}

// thing is one that is come to: a fault, or a name that a pattern or an expression has.
type thing struct {
	fault   api.Fault
	name    string
	binds   bool
	parts   []part
	becomes bool // of a pattern's name: it was not in scope, and is bound
}

// teller tells a clause.
type teller struct {
	functions map[called]int
	row       []thing
	parts     []part
	numbers   int
}

func (t *teller) fault(err api.Errno, n api.Node) {
	t.row = append(t.row, thing{fault: api.Fault{Err: err, At: n.At}})
}

func (t *teller) within(kind partKind, tell func()) {
	t.numbers++
	t.parts = append(slices.Clone(t.parts), part{kind, t.numbers})
	tell()
	t.parts = t.parts[:len(t.parts)-1]
}

func (t *teller) named(n api.Node, binds bool) {
	t.row = append(t.row, thing{fault: api.Fault{At: n.At}, name: n.Text, binds: binds, parts: slices.Clone(t.parts)})
}

func (t *teller) clause(n api.Node) {
	t.patterns(n.Kids[0].Kids)
	for _, all := range n.Kids[1].Kids {
		t.guards(all.Kids)
	}
	t.body(n.Kids[2])
}

func (t *teller) patterns(row []api.Node) {
	for _, n := range row {
		switch {
		case n.Kind == api.NodeVar && n.Text == "_", n.Kind == api.NodeInt, n.Kind == api.NodeAtom, n.Kind == api.NodeText:
		case n.Kind == api.NodeVar:
			t.named(n, true)
		case n.Kind == api.NodeTuple, n.Kind == api.NodeList, n.Kind == api.NodeMatch:
			t.patterns(n.Kids)
		case n.Kind == api.NodeOp && len(n.Kids) == 1 && n.Text == "-" && n.Kids[0].Kind == api.NodeInt:
		default:
			t.fault(api.ErrPattern, n)
		}
	}
}

func (t *teller) guards(row []api.Node) {
	for _, n := range row {
		switch {
		case n.Kind == api.NodeVar:
			t.named(n, false)
		case n.Kind == api.NodeInt, n.Kind == api.NodeAtom, n.Kind == api.NodeText, n.Kind == api.NodeTuple, n.Kind == api.NodeList,
			n.Kind == api.NodeOp && (n.Text == "andalso" || n.Text == "orelse" || table[called{n.Text, len(n.Kids)}] == lint.Guards):
			t.guards(n.Kids)
		case n.Kind == api.NodeCall && n.Kids[0].Kind == api.NodeAtom && table[called{n.Kids[0].Text, len(n.Kids) - 1}] == lint.Guards:
			t.guards(n.Kids[1:])
		default:
			t.fault(api.ErrGuard, n)
		}
	}
}

func (t *teller) body(n api.Node) {
	for _, item := range n.Kids {
		var lefts []api.Node
		for item.Kind == api.NodeMatch {
			lefts = append(lefts, item.Kids[0])
			item = item.Kids[1]
		}
		t.items(item)
		slices.Reverse(lefts)
		t.patterns(lefts)
	}
}

func (t *teller) arities(clauses []api.Node, arity int) {
	for _, n := range clauses {
		switch patterns := len(n.Kids[0].Kids); {
		case patterns > 12:
			t.fault(api.ErrMany, n)
		case patterns != arity:
			t.fault(api.ErrArity, n)
		}
	}
}

func (t *teller) each(kind partKind, clauses []api.Node) {
	for _, n := range clauses {
		t.within(kind, func() { t.clause(n) })
	}
}

// items tells other expressions.
func (t *teller) items(row ...api.Node) {
	for _, n := range row {
		switch n.Kind {
		case api.NodeMatch:
			t.fault(api.ErrPattern, n)
		case api.NodeVar:
			t.named(n, false)
		case api.NodeCall:
			t.call(n)
		case api.NodeName:
			if t.functions[called{n.Text, n.Num}] == 0 {
				t.fault(api.ErrCall, n)
			}
		case api.NodeFun:
			t.arities(n.Kids, len(n.Kids[0].Kids[0].Kids))
			t.each(closed, n.Kids)
		case api.NodeCase:
			t.items(n.Kids[0])
			t.each(counted, n.Kids[1:])
		case api.NodeIf:
			t.each(counted, n.Kids)
		case api.NodeReceive:
			t.each(counted, n.Kids[:len(n.Kids)-n.Num])
			if n.Num == 1 {
				late := n.Kids[len(n.Kids)-1]
				t.items(late.Kids[0])
				t.within(after, func() { t.body(late.Kids[1]) })
			}
		case api.NodeTry:
			t.within(counted, func() { t.body(n.Kids[0]) })
			t.each(counted, n.Kids[1:])
		case api.NodeBlock:
			t.within(counted, func() { t.body(n) })
		case api.NodeComp:
			t.within(closed, func() { t.comprehension(n) })
		default:
			t.items(n.Kids...)
		}
	}
}

func (t *teller) call(n api.Node) {
	name, arity := n.Kids[0], len(n.Kids)-1
	if arity > 12 {
		t.fault(api.ErrMany, n)
	}
	if name.Kind != api.NodeAtom {
		t.items(name)
	} else if known := (called{name.Text, arity}); t.functions[known] == 0 && table[known] == 0 {
		t.fault(api.ErrCall, n)
	}
	t.items(n.Kids[1:]...)
}

func (t *teller) comprehension(n api.Node) {
	for _, kid := range n.Kids[1:] {
		if kid.Kind == api.NodeGen {
			t.items(kid.Kids[1])
			t.patterns(kid.Kids[:1])
		} else {
			t.items(kid)
		}
	}
	t.items(n.Kids[0])
}

// around says whether the one's parts are all around the other, too.
func around(one, other []part) bool {
	return len(one) <= len(other) && slices.Equal(one, other[:len(one)])
}

// first is the first fault of the row.
func first(row []thing) api.Fault {
	for i := range row {
		here := &row[i]
		if here.fault.Err != api.OK {
			return here.fault
		}
		seen := slices.ContainsFunc(row[:i], func(ahead thing) bool {
			return ahead.binds && ahead.name == here.name && around(ahead.parts, here.parts)
		})
		here.becomes = here.binds && !seen
		if here.binds || seen {
			continue
		}
		here.fault.Err = api.ErrFree
		if slices.ContainsFunc(row[:i], func(ahead thing) bool {
			return ahead.becomes && ahead.name == here.name && counts(ahead.parts, here.parts)
		}) {
			here.fault.Err = api.ErrUnsafe
		}
		return here.fault
	}
	return api.Fault{}
}

// counts says whether what is bound within the one's parts makes a name unsafe within the other's.
func counts(bound, asked []part) bool {
	if len(bound) == 0 || bound[len(bound)-1].kind != counted {
		return false
	}
	for i, p := range bound {
		if p.kind == closed && !around(bound[:i+1], asked) {
			return false
		}
	}
	return true
}

// checkByWords is the first fault of a right module.
func checkByWords(m api.Node) api.Fault {
	t := &teller{functions: map[called]int{}}
	for _, f := range m.Kids {
		own := called{f.Text, f.Num}
		if t.functions[own] > 0 || table[own] > 0 {
			t.fault(api.ErrTwice, f)
		}
		t.functions[own]++
		t.arities(f.Kids, f.Num)
	}
	if fault := first(t.row); fault.Err != api.OK {
		return fault
	}
	for _, f := range m.Kids {
		for _, n := range f.Kids {
			t.row = nil
			t.clause(n)
			if fault := first(t.row); fault.Err != api.OK {
				return fault
			}
		}
	}
	return api.Fault{}
}
