package core_test

import (
	"fmt"
	"strings"
	"testing"

	"pigeonhole/api"
	"pigeonhole/core"
	"pigeonhole/parse"
	"pigeonhole/term"
)

// Programs as texts, in the chapter's own signs: 1 is a CoreVar, true (as a guard) a GuardAny without Kids.

func rows(row []api.Core, between string) string {
	var out []string
	for _, c := range row {
		out = append(out, write(c))
	}
	return strings.Join(out, between)
}

func write(c api.Core) string {
	row := func() string { return "(" + rows(c.Kids, ", ") + ")" } // not ahead of being asked for: most kinds have their own
	switch c.Kind {
	case api.CoreConst:
		return "Const " + term.Text(c.Term)
	case api.CoreVar:
		return fmt.Sprint(c.Num)
	case api.CoreTuple:
		return "Tuple" + row()
	case api.CoreCons:
		return "Cons" + row()
	case api.CoreLet:
		return fmt.Sprintf("Let(%s; %d; %s)", write(c.Kids[0]), c.Num, write(c.Kids[1])) // a variable stands where it is counted
	case api.CoreCall:
		return fmt.Sprint("Call @", c.Num, row())
	case api.CoreApply:
		return "Apply" + row()
	case api.CoreBif:
		return "Bif " + c.Text + row()
	case api.CoreFun:
		return fmt.Sprint("Fun @", c.Num, row())
	case api.CoreCase:
		return "Case(" + rows(c.Kids, "; ") + ")"
	case api.CoreReceive:
		return fmt.Sprintf("Receive %d(%s)", c.Num, rows(c.Kids, "; "))
	case api.CoreTry:
		return "Try(" + rows(c.Kids, "; ") + ")"
	case api.CoreClause:
		return write(c.Kids[0]) + ", " + write(c.Kids[1]) + " -> " + write(c.Kids[2])
	case api.CoreFail:
		return "Fail(" + strings.TrimSuffix(c.Text+", "+rows(c.Kids, ", "), ", ") + ")"
	default:
		return writePart(c, row)
	}
}

// writePart is of patterns and guards.
func writePart(c api.Core, row func() string) string {
	switch c.Kind {
	case api.PatAny:
		return "PatAny"
	case api.PatBind:
		return fmt.Sprint("PatBind ", c.Num)
	case api.PatSame:
		return fmt.Sprint("PatSame ", c.Num)
	case api.PatConst:
		return "PatConst " + term.Text(c.Term)
	case api.PatTuple:
		return "PatTuple" + row()
	case api.PatCons:
		return "PatCons" + row()
	case api.PatBoth:
		return "PatBoth" + row()
	case api.GuardAll:
		return "GuardAll" + row()
	case api.GuardAny:
		if len(c.Kids) == 0 {
			return "true"
		}
		return "GuardAny" + row()
	default:
		return fmt.Sprint("?", c.Kind)
	}
}

// writeFunc is a name, how many parameters are captured and how many are not, how many variables there are in all, and the body.
func writeFunc(f api.Func) string {
	return fmt.Sprintf("%s %d+%d/%d %s", f.Name, f.Extra, f.Arity-f.Extra, f.Vars, write(f.Body))
}

func writeProgram(p api.Program) string {
	var out []string
	for _, f := range p.Funcs {
		out = append(out, writeFunc(f))
	}
	return strings.Join(out, "\n")
}

func parsed(t *testing.T, source string) api.Node {
	t.Helper()
	m, fault := parse.Module(source)
	if fault.Err != api.OK {
		t.Fatal(source, fault)
	}
	return m
}

// program is what a source becomes; it is sound, and counted as it should be.
func program(t *testing.T, source string) api.Program {
	t.Helper()
	m := parsed(t, source)
	p, err := core.Make(m)
	if err != api.OK {
		t.Fatalf("%s: %v", source, err)
	}
	if wrong := unsound(p); wrong != "" {
		t.Errorf("%s: %s", source, wrong)
	}
	if wrong := uncounted(p, len(m.Kids)); wrong != "" {
		t.Errorf("%s: %s", source, wrong)
	}
	return p
}

// inside is the body of the first function's one clause: it has no parameters, X, or X and Y, and no guards.
func inside(t *testing.T, source string) (string, api.Program) {
	t.Helper()
	p := program(t, source)
	whole := write(p.Funcs[0].Body)
	for _, ahead := range []string{
		"Case(Tuple(); PatTuple(), true -> ",
		"Case(0; PatBind 1, true -> ",
		"Case(Tuple(0, 1); PatTuple(PatBind 2, PatBind 3), true -> ",
	} {
		body, begins := strings.CutPrefix(whole, ahead)
		body, ends := strings.CutSuffix(body, "; PatAny, true -> Fail(function_clause))")
		if begins && ends {
			return body, p
		}
	}
	t.Fatalf("%s: %s", source, whole)
	return "", p
}

// becomes asks what stands in the body of f; further functions are asked for as wholes.
func becomes(t *testing.T, source, want string, others ...string) {
	t.Helper()
	got, p := inside(t, source)
	if got != want {
		t.Errorf("%s:\n%s\nnot\n%s", source, got, want)
	}
	if len(p.Funcs) != 1+len(others) {
		t.Fatalf("%s: %d functions\n%s", source, len(p.Funcs), writeProgram(p))
	}
	for i, f := range p.Funcs[1:] {
		if got := writeFunc(f); got != others[i] {
			t.Errorf("%s: function %d:\n%s\nnot\n%s", source, i+1, got, others[i])
		}
	}
}

// wholly asks for all functions as wholes.
func wholly(t *testing.T, source string, want ...string) {
	t.Helper()
	got := writeProgram(program(t, source))
	if got != strings.Join(want, "\n") {
		t.Errorf("%s:\n%s\nnot\n%s", source, got, strings.Join(want, "\n"))
	}
}

func num(n int) string { return fmt.Sprint(n) }

func number(s string) int {
	n := 0
	fmt.Sscan(s, &n)
	return n
}
