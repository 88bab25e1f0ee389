package bif

import (
	"pigeonhole/api"
	"pigeonhole/term"
)

// kindTests is what each test of a kind asks for.
var kindTests = [...]struct {
	name string
	kind api.Kind
}{
	{"is_integer", api.Int},
	{"is_atom", api.Atom},
	{"is_tuple", api.Tuple},
	{"is_list", api.List},
	{"is_pid", api.Pid},
	{"is_reference", api.Ref},
	{"is_function", api.Fun},
}

// passes says whether a is of the kind that the test of that name asks for.
func passes(name string, a api.Term) bool {
	for _, test := range kindTests {
		if test.name == name {
			return are(test.kind, a)
		}
	}
	return false
}

// takes is whether a is a fun: of how many arguments is asked for, but makes no difference.
func takes(a, arity api.Term) (value api.Term, why string) {
	if !natural(arity) {
		return api.Term{}, badArg
	}
	return truth(are(api.Fun, a)), none
}

func truth(holds bool) api.Term {
	if holds {
		return atom("true")
	}
	return atom("false")
}

// decided is what and, or, xor make of two truths.
func decided(name string, a, b api.Term) (value api.Term, why string) {
	if !booleans(a, b) {
		return api.Term{}, badArg
	}
	first, second := a.Text == "true", b.Text == "true"
	switch name {
	case "and":
		return truth(first && second), none
	case "or":
		return truth(first || second), none
	default:
		return truth(first != second), none
	}
}

// stands says whether two terms stand to each other as name has it, of which term.Compare tells order.
func stands(name string, order int) bool {
	switch name {
	case "==", "=:=":
		return order == 0
	case "/=", "=/=":
		return order != 0
	case "<":
		return order < 0
	case "=<":
		return order <= 0
	case ">":
		return order > 0
	default:
		return order >= 0
	}
}

// chosen is the greater or the lesser one.
func chosen(name string, a, b api.Term) api.Term {
	order := term.Compare(a, b)
	if name == "max" && order < 0 || name == "min" && order > 0 {
		return b
	}
	return a
}
