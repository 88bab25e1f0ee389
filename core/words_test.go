package core_test

import (
	"fmt"
	"maps"
	"math/big"
	"regexp"
	"slices"
	"strings"

	"pigeonhole/api"
	"pigeonhole/lint"
	"pigeonhole/term"
)

// P8.1 to P8.6 once more, in another way, to be held against the program: each function is told as a text with signs for variables and for helpers that say nothing of their numbers (they begin with the bytes 1 and 2, which no term's text has). They are numbered at the end, as they stand in the texts.

type told struct {
	name   string
	params []string
	extra  int
	body   string
}

type teller struct {
	places  map[string]int // of the module's functions, by name/arity
	signs   int
	helpers map[string]told
	great   bool // an integer of more than 1024 bits
}

// env is the signs that names stand for.
type env map[string]string

func (w *teller) sign() string {
	w.signs++
	return fmt.Sprintf("\x01%06d", w.signs)
}

func (w *teller) some(count int) []string {
	var out []string
	for range count {
		out = append(out, w.sign())
	}
	return out
}

func (w *teller) helper(params []string, extra int, body func(self string) string) string {
	self := fmt.Sprintf("\x02%06d", len(w.helpers)+1)
	w.helpers[self] = told{}
	w.helpers[self] = told{"", params, extra, body(self)}
	return self
}

func row(parts ...string) string { return "(" + strings.Join(parts, ", ") + ")" }

func all(nodes []api.Node, tell func(api.Node) string) []string {
	var out []string
	for _, n := range nodes {
		out = append(out, tell(n))
	}
	return out
}

func with(outer, inner env) env {
	out := maps.Clone(outer)
	maps.Copy(out, inner)
	return out
}

func (w *teller) value(n api.Node, sign string) string {
	switch n.Kind {
	case api.NodeInt:
		i, _ := new(big.Int).SetString(sign+n.Text, 10)
		w.great = w.great || i.BitLen() > 1024
		return i.String()
	case api.NodeText:
		var bytes []string
		for _, c := range []byte(n.Text) {
			bytes = append(bytes, num(int(c)))
		}
		return "[" + strings.Join(bytes, ",") + "]"
	default:
		return term.Text(api.Term{Kind: api.Atom, Text: n.Text})
	}
}

// nested is a list's text: each kid and the rest.
func nested(cons string, kids []string, num int, none string) string {
	if num == 0 {
		kids = append(kids, none)
	}
	text := strings.Join(kids[:len(kids)-1], ", "+cons+"(")
	if len(kids) == 1 {
		return kids[0]
	}
	return cons + "(" + text + ", " + kids[len(kids)-1] + strings.Repeat(")", len(kids)-1)
}

func (w *teller) pattern(n api.Node, e env) string {
	kids := func() []string { return all(n.Kids, func(kid api.Node) string { return w.pattern(kid, e) }) }
	switch n.Kind {
	case api.NodeVar:
		if n.Text == "_" {
			return "PatAny"
		}
		if e[n.Text] != "" {
			return "PatSame " + e[n.Text]
		}
		e[n.Text] = w.sign()
		return "PatBind " + e[n.Text]
	case api.NodeTuple:
		return "PatTuple" + row(kids()...)
	case api.NodeList:
		return nested("PatCons", kids(), n.Num, "PatConst []")
	case api.NodeMatch:
		return "PatBoth" + row(kids()...)
	case api.NodeOp:
		return "PatConst " + w.value(n.Kids[0], "-")
	default:
		return "PatConst " + w.value(n, "")
	}
}

func (w *teller) guards(n api.Node, e env) string {
	if len(n.Kids) == 0 {
		return "true"
	}
	return "GuardAny" + row(all(n.Kids, func(block api.Node) string {
		return "GuardAll" + row(all(block.Kids, func(g api.Node) string { return w.item(g, e, true) })...)
	})...)
}

func (w *teller) clause(n api.Node, pattern string, e env) string {
	guards := w.guards(n.Kids[1], e)
	return pattern + ", " + guards + " -> " + w.items(n.Kids[2].Kids, e)
}

// choices is clauses, each with ; behind it.
func (w *teller) choices(clauses []api.Node, e env) string {
	out := ""
	for _, n := range clauses {
		inner := with(e, nil)
		pattern := "PatAny"
		if len(n.Kids[0].Kids) == 1 {
			pattern = w.pattern(n.Kids[0].Kids[0], inner)
		}
		out += w.clause(n, pattern, inner) + "; "
	}
	return out
}

// heads is the body of a function or a fun, of these parameters.
func (w *teller) heads(clauses []api.Node, params []string, e env) string {
	subject, tuple := "Tuple"+row(params...), true
	if len(params) == 1 {
		subject, tuple = params[0], false
	}
	out := "Case(" + subject + "; "
	for _, n := range clauses {
		own := env{}
		patterns := all(n.Kids[0].Kids, func(p api.Node) string { return w.pattern(p, own) })
		pattern := strings.Join(patterns, ", ")
		if tuple {
			pattern = "PatTuple(" + pattern + ")"
		}
		out += w.clause(n, pattern, with(e, own)) + "; "
	}
	return out + "PatAny, true -> Fail(function_clause))"
}

// last is a clause that takes what no other has taken.
func (w *teller) last(fails string) string {
	x := w.sign()
	return "PatBind " + x + ", true -> Fail(" + strings.ReplaceAll(fails, "x", x) + "))"
}

func (w *teller) items(items []api.Node, e env) string {
	n, lefts := items[0], []api.Node(nil)
	for ; n.Kind == api.NodeMatch; n = n.Kids[1] {
		lefts = append(lefts, n.Kids[0])
	}
	first := w.item(n, e, false)
	if len(lefts) == 0 {
		if len(items) == 1 {
			return first
		}
		x := w.sign()
		return "Let(" + first + "; " + x + "; " + w.items(items[1:], e) + ")"
	}
	x := w.sign()
	slices.Reverse(lefts)
	patterns := all(lefts, func(p api.Node) string { return w.pattern(p, e) })
	p := strings.Repeat("PatBoth(", len(lefts)-1) + patterns[0]
	for _, more := range patterns[1:] {
		p += ", " + more + ")"
	}
	if len(items) == 1 {
		return "Case(" + first + "; PatBoth(PatBind " + x + ", " + p + "), true -> " + x + "; " + w.last("badmatch, x")
	}
	return "Case(" + first + "; " + p + ", true -> " + w.items(items[1:], e) + "; " + w.last("badmatch, x")
}

// captures is the names of e that stand in the nodes, in the order in which their signs were made.
func captures(e env, nodes ...api.Node) []string {
	var found []string
	for _, n := range nodes {
		if n.Kind == api.NodeVar && e[n.Text] != "" {
			found = append(found, n.Text)
		}
		found = append(found, captures(e, n.Kids...)...)
	}
	slices.SortFunc(found, func(a, b string) int { return strings.Compare(e[a], e[b]) })
	return slices.Compact(found)
}

func (e env) signs(names []string) []string {
	var out []string
	for _, name := range names {
		out = append(out, e[name])
	}
	return out
}

// named is names with the signs that stand in their places.
func named(names, signs []string) env {
	out := env{}
	for i, name := range names {
		out[name] = signs[i]
	}
	return out
}

func (w *teller) item(n api.Node, e env, guard bool) string {
	kids := func(nodes []api.Node) []string {
		return all(nodes, func(kid api.Node) string { return w.item(kid, e, guard) })
	}
	switch n.Kind {
	case api.NodeInt, api.NodeAtom, api.NodeText:
		return "Const " + w.value(n, "")
	case api.NodeVar:
		return e[n.Text]
	case api.NodeTuple:
		return "Tuple" + row(kids(n.Kids)...)
	case api.NodeList:
		return nested("Cons", kids(n.Kids), n.Num, "Const []")
	case api.NodeOp:
		return w.operator(n.Text, kids(n.Kids), guard)
	case api.NodeCall:
		if n.Kids[0].Kind != api.NodeAtom {
			return "Apply" + row(kids(n.Kids)...)
		}
		name := n.Kids[0].Text
		if at, ok := w.places[fmt.Sprint(name, "/", len(n.Kids)-1)]; ok {
			return fmt.Sprint("Call @", at) + row(kids(n.Kids[1:])...)
		}
		return "Bif " + name + row(kids(n.Kids[1:])...)
	case api.NodeName:
		return fmt.Sprint("Fun @", w.places[fmt.Sprint(n.Text, "/", n.Num)], "()")
	default:
		return w.branched(n, e)
	}
}

func (w *teller) operator(text string, kids []string, guard bool) string {
	switch {
	case text == "andalso" && guard:
		return "GuardAll" + row(kids...)
	case text == "orelse" && guard:
		return "GuardAny" + row(kids...)
	case text == "andalso":
		return "Case(" + kids[0] + "; PatConst true, true -> " + kids[1] + "; PatConst false, true -> Const false; " + w.last("badarg")
	case text == "orelse":
		return "Case(" + kids[0] + "; PatConst true, true -> Const true; PatConst false, true -> " + kids[1] + "; " + w.last("badarg")
	default:
		return "Bif " + text + row(kids...)
	}
}

// branched is items that have bodies, clauses or qualifiers.
func (w *teller) branched(n api.Node, e env) string {
	switch n.Kind {
	case api.NodeFun:
		names := captures(e, n)
		params := w.some(len(names) + len(n.Kids[0].Kids[0].Kids))
		return "Fun " + w.helper(params, len(names), func(string) string {
			return w.heads(n.Kids, params[len(names):], named(names, params))
		}) + row(e.signs(names)...)
	case api.NodeCase:
		subject := w.item(n.Kids[0], e, false)
		return "Case(" + subject + "; " + w.choices(n.Kids[1:], e) + w.last("case_clause, x")
	case api.NodeIf:
		return "Case(Const true; " + w.choices(n.Kids, e) + "PatAny, true -> Fail(if_clause))"
	case api.NodeReceive:
		clauses := w.choices(n.Kids[:len(n.Kids)-n.Num], e)
		if n.Num == 0 {
			return "Receive 0(" + strings.TrimSuffix(clauses, "; ") + ")"
		}
		after := n.Kids[len(n.Kids)-1]
		time := w.item(after.Kids[0], e, false)
		return "Receive 1(" + clauses + time + "; " + w.items(after.Kids[1].Kids, with(e, nil)) + ")"
	case api.NodeTry:
		tried := w.items(n.Kids[0].Kids, with(e, nil))
		return "Try(" + tried + "; " + strings.TrimSuffix(w.choices(n.Kids[1:], e), "; ") + ")"
	case api.NodeBlock:
		return w.items(n.Kids, with(e, nil))
	default:
		return "Bif reverse(" + w.qualified(n, 1, "Const []", e) + ")"
	}
}

// qualified is a comprehension from a kid on.
func (w *teller) qualified(n api.Node, i int, a string, e env) string {
	if i == len(n.Kids) {
		return "Cons(" + w.item(n.Kids[0], e, false) + ", " + a + ")"
	}
	if n.Kids[i].Kind != api.NodeGen {
		test := w.item(n.Kids[i], e, false)
		return "Case(" + test + "; PatConst true, true -> " + w.qualified(n, i+1, a, e) + "; PatConst false, true -> " + a + "; " + w.last("bad_filter, x")
	}
	p := n.Kids[i].Kids[0]
	names := captures(e, append([]api.Node{p, n.Kids[0]}, n.Kids[i+1:]...)...)
	params := w.some(len(names) + 2)
	caught, u, b := params[:len(names)], params[len(names)], params[len(names)+1]
	self := w.helper(params, 0, func(self string) string {
		own := env{}
		pattern := w.pattern(p, own)
		t, t2 := w.sign(), w.sign()
		inner := w.qualified(n, i+1, b, with(named(names, params), own))
		call := func(t, a string) string { return "Call " + self + row(append(slices.Clone(caught), t, a)...) }
		return "Case(" + u + "; PatCons(" + pattern + ", PatBind " + t + "), true -> " + call(t, inner) +
			"; PatCons(PatAny, PatBind " + t2 + "), true -> " + call(t2, b) + "; PatConst [], true -> " + b + "; " + w.last("bad_generator, x")
	})
	return "Call " + self + row(append(e.signs(names), w.item(n.Kids[i].Kids[1], e, false), a)...)
}

var (
	variableSign = regexp.MustCompile(`\x01\d{6}`)
	helperSign   = regexp.MustCompile(`\x02\d{6}`)
)

// makeByWords is what Make is to answer, as a text.
func makeByWords(m api.Node) (string, api.Errno) {
	if lint.Check(m).Err != api.OK {
		return "", api.ErrShape
	}
	w := &teller{places: map[string]int{}, helpers: map[string]told{}}
	var row []told
	for i, f := range m.Kids {
		w.places[fmt.Sprint(f.Text, "/", f.Num)] = i
	}
	for _, f := range m.Kids {
		params := w.some(f.Num)
		row = append(row, told{f.Text, params, 0, w.heads(f.Kids, params, env{})})
	}
	places := map[string]string{}
	var find func(f told)
	find = func(f told) {
		for _, h := range helperSign.FindAllString(f.body, -1) {
			if places[h] == "" {
				places[h] = fmt.Sprint("@", len(row))
				row = append(row, w.helpers[h])
				find(w.helpers[h])
			}
		}
	}
	for _, f := range row[:len(m.Kids)] {
		find(f)
	}
	var out []string
	many := w.great || len(row) > api.MaxCode
	for _, f := range row {
		f.body = helperSign.ReplaceAllStringFunc(f.body, func(h string) string { return places[h] })
		text, vars := counted(f)
		many = many || vars > 100 || len(f.params) > 12
		out = append(out, text)
	}
	if many {
		return "", api.ErrMany
	}
	return strings.Join(out, "\n"), api.OK
}

// counted is a function's text with its variables numbered as they stand in it, its parameters ahead, and how many these are.
func counted(f told) (string, int) {
	numbers := map[string]string{}
	number := func(sign string) string {
		if numbers[sign] == "" {
			numbers[sign] = num(len(numbers))
		}
		return numbers[sign]
	}
	for _, p := range f.params {
		number(p)
	}
	body := variableSign.ReplaceAllStringFunc(f.body, number)
	return fmt.Sprintf("%s %d+%d/%d %s", f.name, f.extra, len(f.params)-f.extra, len(numbers), body), len(numbers)
}
