package core_test

import (
	"fmt"

	"pigeonhole/api"
	"pigeonhole/sound"
)

func must(holds bool, what string, about ...any) {
	if !holds {
		panic(what + ": " + fmt.Sprint(about...))
	}
}

// unsound is what is wrong with a program; nothing, if it is sound.
func unsound(p api.Program) string {
	if err := sound.Check(p); err != api.OK {
		return "not sound: " + err.Error()
	}
	return ""
}

// uncounted is what is wrong with the order in which variables and helpers are numbered: each function's variables behind its parameters are bound in the order of their numbers, each once, none left out; helpers, behind the functions that have names, are found in the order of theirs.
func uncounted(p api.Program, named int) (wrong string) {
	defer func() {
		if s, ok := recover().(string); ok {
			wrong = s
		}
	}()
	for i, f := range p.Funcs {
		next := f.Arity
		binders(f.Body, &next)
		must(next == f.Vars, "Vars", i, next, f.Vars)
		must(i < named || f.Name == "", "a helper with a name", i, f.Name)
		must(i >= named || f.Extra == 0, "a function with captured ones", i, f.Name)
	}
	next := named
	for _, f := range p.Funcs[:named] {
		helpers(p, f.Body, &next)
	}
	must(next == len(p.Funcs), "helpers", next)
	return ""
}

func binders(c api.Core, next *int) {
	count := func() {
		must(c.Num == *next, "a variable out of order", c.Num, *next)
		*next++
	}
	if c.Kind == api.PatBind {
		count()
	}
	for i, kid := range c.Kids {
		if c.Kind == api.CoreLet && i == 1 {
			count()
		}
		binders(kid, next)
	}
}

func helpers(p api.Program, c api.Core, next *int) {
	if (c.Kind == api.CoreCall || c.Kind == api.CoreFun) && c.Num >= *next {
		must(c.Num == *next, "a helper out of order", c.Num, *next)
		*next++
		helpers(p, p.Funcs[c.Num].Body, next)
	}
	for _, kid := range c.Kids {
		helpers(p, kid, next)
	}
}
