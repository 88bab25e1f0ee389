package bif_test

import (
	"math/big"
	"regexp"
	"slices"
	"strconv"

	"pigeonhole/api"
	"pigeonhole/term"
)

// The chapter once more, in another way, to be held against the program: each line of its table is a function of its own; an error is a panic; integers are the library's; lists are gone through cell by cell.

type oops struct{ raised api.Term }

func orElse(holds bool, raised api.Term) {
	if !holds {
		panic(oops{raised})
	}
}

// said is what the chapter says of a call whose arguments are right.
func said(name string, args ...api.Term) (out string) {
	defer func() {
		if x, ok := recover().(oops); ok {
			out = shown(api.Term{}, x.raised, true)
		}
	}()
	line, ok := lines()[name+"/"+strconv.Itoa(len(args))]
	if !ok {
		return ""
	}
	value := line(args)
	orElse(measured(value) <= 4096, tooGreat)
	return shown(value, api.Term{}, true)
}

// measured is a term's size, as chapter 2 has it.
func measured(t api.Term) int {
	n := 1 + len(t.Limbs)
	for _, x := range slices.Concat(t.Items, t.Tail) {
		n += measured(x)
	}
	switch t.Kind {
	case api.Fun:
		return n + 1
	case api.List:
		return n + len(t.Items)
	}
	return n
}

func yes(holds bool) api.Term { return atom(strconv.FormatBool(holds)) }

func integer(t, raised api.Term) *big.Int {
	orElse(t.Kind == api.Int, raised)
	return toBig(t)
}

func fitting(n *big.Int) api.Term {
	orElse(n.BitLen() <= 32*32, tooGreat)
	return fromBig(n)
}

func boolean(t api.Term) bool {
	orElse(t.Kind == api.Atom && (t.Text == "true" || t.Text == "false"), badArg)
	return t.Text == "true"
}

func isEmpty(t api.Term) bool { return t.Kind == api.List && len(t.Items) == 0 }

// cell is the first item of a list that has one, and the rest.
func cell(t api.Term) (head, rest api.Term) {
	switch {
	case len(t.Items) > 1:
		return t.Items[0], api.Term{Kind: api.List, Items: t.Items[1:], Tail: t.Tail}
	case len(t.Tail) > 0:
		return t.Items[0], t.Tail[0]
	default:
		return t.Items[0], list()
	}
}

// cells is the items of a proper list.
func cells(t api.Term) []api.Term {
	var out []api.Term
	for !isEmpty(t) {
		orElse(t.Kind == api.List, badArg)
		var head api.Term
		head, t = cell(t)
		out = append(out, head)
	}
	return out
}

// onto puts items ahead of t, the last one first.
func onto(items []api.Term, t api.Term) api.Term {
	if t.Kind != api.List && len(items) > 0 {
		return improper(t, items...)
	}
	for _, x := range slices.Backward(items) {
		t = api.Term{Kind: api.List, Items: slices.Insert(slices.Clone(t.Items), 0, x), Tail: t.Tail}
	}
	return t
}

// position is a number from least to n.
func position(t api.Term, least, n int) int {
	at := integer(t, badArg)
	orElse(at.Cmp(big.NewInt(int64(least))) >= 0 && at.Cmp(big.NewInt(int64(n))) <= 0, badArg)
	return int(at.Int64())
}

func tupleItems(t api.Term) []api.Term {
	orElse(t.Kind == api.Tuple, badArg)
	return t.Items
}

// inOrder puts each item behind all that are not above it.
func inOrder(items []api.Term) []api.Term {
	var out []api.Term
	for _, x := range items {
		at := len(out)
		for at > 0 && term.Compare(out[at-1], x) > 0 {
			at--
		}
		out = slices.Insert(out, at, x)
	}
	return out
}

func bytesOf(t api.Term) string {
	var out []byte
	for _, x := range cells(t) {
		n := integer(x, badArg)
		orElse(n.Sign() >= 0 && n.Cmp(big.NewInt(255)) <= 0, badArg)
		out = append(out, byte(n.Int64()))
	}
	return string(out)
}

var onlyDigits = regexp.MustCompile(`^[0-9]+$`)

func parted(s string) (sign, digits string) {
	if s != "" && (s[0] == '+' || s[0] == '-') {
		return s[:1], s[1:]
	}
	return "", s
}

func raising(class string) func(a []api.Term) api.Term {
	return func(a []api.Term) api.Term {
		orElse(measured(a[0]) <= 4096-2, tooGreat)
		panic(oops{failure(class, a[0])})
	}
}

func asks(kind api.Kind) func(a []api.Term) api.Term {
	return func(a []api.Term) api.Term { return yes(a[0].Kind == kind) }
}

func ordered(holds func(c int) bool) func(a []api.Term) api.Term {
	return func(a []api.Term) api.Term { return yes(holds(term.Compare(a[0], a[1]))) }
}

func sums(do func(z, x, y *big.Int) *big.Int) func(a []api.Term) api.Term {
	return func(a []api.Term) api.Term {
		return fitting(do(new(big.Int), integer(a[0], badArith), integer(a[1], badArith)))
	}
}

func divides(do func(z, x, y *big.Int) *big.Int) func(a []api.Term) api.Term {
	return func(a []api.Term) api.Term {
		x, y := integer(a[0], badArith), integer(a[1], badArith)
		orElse(y.Sign() != 0, badArith)
		return fitting(do(new(big.Int), x, y))
	}
}

func truths(do func(x, y bool) bool) func(a []api.Term) api.Term {
	return func(a []api.Term) api.Term {
		x, y := boolean(a[0]), boolean(a[1])
		return yes(do(x, y))
	}
}

func lines() map[string]func(a []api.Term) api.Term {
	return map[string]func(a []api.Term) api.Term{
		"+/2":   sums((*big.Int).Add),
		"-/2":   sums((*big.Int).Sub),
		"*/2":   sums((*big.Int).Mul),
		"+/1":   func(a []api.Term) api.Term { return fitting(integer(a[0], badArith)) },
		"-/1":   func(a []api.Term) api.Term { return fitting(new(big.Int).Neg(integer(a[0], badArith))) },
		"div/2": divides((*big.Int).Quo),
		"rem/2": divides((*big.Int).Rem),
		"==/2":  func(a []api.Term) api.Term { return yes(term.Same(a[0], a[1])) },
		"=:=/2": func(a []api.Term) api.Term { return yes(term.Same(a[0], a[1])) },
		"/=/2":  func(a []api.Term) api.Term { return yes(!term.Same(a[0], a[1])) },
		"=/=/2": func(a []api.Term) api.Term { return yes(!term.Same(a[0], a[1])) },
		"</2":   ordered(func(c int) bool { return c == -1 }),
		"=</2":  ordered(func(c int) bool { return c != 1 }),
		">/2":   ordered(func(c int) bool { return c == 1 }),
		">=/2":  ordered(func(c int) bool { return c != -1 }),
		"and/2": truths(func(x, y bool) bool { return x && y }),
		"or/2":  truths(func(x, y bool) bool { return x || y }),
		"xor/2": truths(func(x, y bool) bool { return x != y }),
		"not/1": func(a []api.Term) api.Term { return yes(!boolean(a[0])) },
		"++/2":  func(a []api.Term) api.Term { return onto(cells(a[0]), a[1]) },
		"--/2": func(a []api.Term) api.Term {
			left, gone := cells(a[0]), cells(a[1])
			for _, x := range gone {
				if at := slices.IndexFunc(left, func(y api.Term) bool { return term.Same(x, y) }); at >= 0 {
					left = slices.Delete(left, at, at+1)
				}
			}
			return onto(left, list())
		},
		"max/2": func(a []api.Term) api.Term {
			if term.Compare(a[1], a[0]) > 0 {
				return a[1]
			}
			return a[0]
		},
		"min/2": func(a []api.Term) api.Term {
			if term.Compare(a[1], a[0]) < 0 {
				return a[1]
			}
			return a[0]
		},
		"abs/1": func(a []api.Term) api.Term { return fitting(new(big.Int).Abs(integer(a[0], badArg))) },
		"hd/1": func(a []api.Term) api.Term {
			orElse(a[0].Kind == api.List && !isEmpty(a[0]), badArg)
			head, _ := cell(a[0])
			return head
		},
		"tl/1": func(a []api.Term) api.Term {
			orElse(a[0].Kind == api.List && !isEmpty(a[0]), badArg)
			_, rest := cell(a[0])
			return rest
		},
		"length/1": func(a []api.Term) api.Term { return num(int64(len(cells(a[0])))) },
		"element/2": func(a []api.Term) api.Term {
			items := tupleItems(a[1])
			return items[position(a[0], 1, len(items))-1]
		},
		"setelement/3": func(a []api.Term) api.Term {
			items := slices.Clone(tupleItems(a[1]))
			items[position(a[0], 1, len(items))-1] = a[2]
			return tuple(items...)
		},
		"tuple_size/1":    func(a []api.Term) api.Term { return num(int64(len(tupleItems(a[0])))) },
		"tuple_to_list/1": func(a []api.Term) api.Term { return onto(tupleItems(a[0]), list()) },
		"list_to_tuple/1": func(a []api.Term) api.Term { return tuple(cells(a[0])...) },
		"is_integer/1":    asks(api.Int),
		"is_atom/1":       asks(api.Atom),
		"is_tuple/1":      asks(api.Tuple),
		"is_list/1":       asks(api.List),
		"is_pid/1":        asks(api.Pid),
		"is_reference/1":  asks(api.Ref),
		"is_function/1":   asks(api.Fun),
		"is_boolean/1": func(a []api.Term) api.Term {
			return yes(term.Same(a[0], atom("true")) || term.Same(a[0], atom("false")))
		},
		"is_function/2": func(a []api.Term) api.Term {
			orElse(integer(a[1], badArg).Sign() >= 0, badArg)
			return yes(a[0].Kind == api.Fun)
		},
		"atom_to_list/1": func(a []api.Term) api.Term {
			orElse(a[0].Kind == api.Atom, badArg)
			return spelled(a[0].Text)
		},
		"list_to_atom/1": func(a []api.Term) api.Term {
			s := bytesOf(a[0])
			orElse(len(s) <= 40, tooGreat)
			return atom(s)
		},
		"integer_to_list/1": func(a []api.Term) api.Term { return spelled(integer(a[0], badArg).String()) },
		"list_to_integer/1": func(a []api.Term) api.Term {
			sign, digits := parted(bytesOf(a[0]))
			orElse(onlyDigits.MatchString(digits), badArg)
			n, _ := new(big.Int).SetString(sign+digits, 10)
			return fitting(n)
		},
		"reverse/1": func(a []api.Term) api.Term {
			out := list()
			for _, x := range cells(a[0]) {
				out = onto([]api.Term{x}, out)
			}
			return out
		},
		"nth/2": func(a []api.Term) api.Term {
			items := cells(a[1])
			return items[position(a[0], 1, len(items))-1]
		},
		"nthtail/2": func(a []api.Term) api.Term {
			rest := a[1]
			for range position(a[0], 0, len(cells(rest))) {
				_, rest = cell(rest)
			}
			return rest
		},
		"member/2": func(a []api.Term) api.Term {
			return yes(slices.ContainsFunc(cells(a[1]), func(x api.Term) bool { return term.Same(x, a[0]) }))
		},
		"sum/1": func(a []api.Term) api.Term {
			sum := fitting(new(big.Int))
			for _, x := range cells(a[0]) {
				sum = fitting(new(big.Int).Add(toBig(sum), integer(x, badArith)))
			}
			return sum
		},
		"seq/2": func(a []api.Term) api.Term {
			from, to := integer(a[0], badArg), integer(a[1], badArg)
			one := big.NewInt(1)
			orElse(to.Cmp(new(big.Int).Sub(from, one)) >= 0, badArg)
			orElse(new(big.Int).Sub(to, from).Cmp(big.NewInt(2048)) < 0, tooGreat) // each item is 2 at least
			var items []api.Term
			for n := new(big.Int).Set(from); n.Cmp(to) <= 0; n.Add(n, one) {
				items = append(items, fromBig(n))
			}
			return list(items...)
		},
		"sort/1":  func(a []api.Term) api.Term { return onto(inOrder(cells(a[0])), list()) },
		"usort/1": func(a []api.Term) api.Term { return onto(once(inOrder(cells(a[0]))), list()) },
		"last/1": func(a []api.Term) api.Term {
			items := cells(a[0])
			orElse(len(items) > 0, badArg)
			return items[len(items)-1]
		},
		"throw/1": raising("throw"),
		"error/1": raising("error"),
		"exit/1":  raising("exit"),
	}
}

// once leaves out each item that is the same as one ahead of it.
func once(items []api.Term) []api.Term {
	var out []api.Term
	for _, x := range items {
		if !slices.ContainsFunc(out, func(y api.Term) bool { return term.Same(x, y) }) {
			out = append(out, x)
		}
	}
	return out
}
