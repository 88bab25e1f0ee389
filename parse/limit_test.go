package parse_test

import (
	"strings"
	"testing"
	"unsafe"

	"pigeonhole/api"
	"pigeonhole/node"
	"pigeonhole/parse"
)

// nested is inside, with so many of the two around.
func nested(ahead, inside, behind string, times int) string {
	return strings.Repeat(ahead, times) + inside + strings.Repeat(behind, times)
}

// P5.1: each way for an item to be deeper than those in it.
func TestDeepItems(t *testing.T) {
	for _, x := range []struct {
		ahead, inside, behind string
		at                    int // where the first one with fifty above it is, of fifty of them
	}{
		{"{", "a", "}", 50},
		{"[", "a", "]", 50},
		{"{", "{}", "}", 50},
		{"- ", "a", "", 100},
		{"not ", "a", "", 200},
		{"", "a", "+a", 0},
		{"", "a", " orelse a", 0},
		{"", "a", "()", 0},
		{"", "a", "(b)", 0},
		{"f(", "a", ")", 98}, // the fiftieth call's f
		{"a=", "a", "", 98},
		{"a!", "a", "", 98},
		{"a++", "a", "", 147},
		{"(a)++", "a", "", 246},
		{"[a|", "b", "]", 148},
		{"begin ", "a", " end", 300},
		{"({(", "a", ")})", 150},
	} {
		if got := node.Deep(shaped(t, nested(x.ahead, x.inside, x.behind, 49))); got != 50 {
			t.Errorf("%s: %d deep", x.ahead, got)
		}
		deeper := nested(x.ahead, x.inside, x.behind, 50)
		faulty(t, ofItems, deeper, api.ErrDeep, x.at)
		faulty(t, ofItems, deeper+" b", api.ErrSyntax, len(deeper)+1)
	}
}

// P5.1: clauses, patterns and guards are nodes too.
func TestDeepClauses(t *testing.T) {
	for _, x := range []struct {
		ahead, behind string
		adds          int // how much deeper it makes what stands in it
	}{
		{"case a of b -> ", " end", 3}, {"case ", " of a -> b end", 1}, {"case a of ", " -> b end", 3}, {"case a of b when ", " -> c end", 4},
		{"fun () -> ", " end", 3}, {"fun (", ") -> a end", 3}, {"fun () when ", " -> a end", 4}, {"fun () -> a; (b) when c; ", " -> d end", 4},
		{"if ", " -> a end", 4}, {"if a -> ", " end", 3}, {"if a, ", "; b -> c end", 4},
		{"receive a -> ", " end", 3}, {"receive after ", " -> a end", 2}, {"receive after 1 -> ", " end", 3}, {"receive a -> b; ", " -> c after d -> e end", 3},
		{"try ", " catch a : b -> c end", 2}, {"try a catch b : ", " -> d end", 4}, {"try a catch b : c -> ", " end", 3}, {"try a catch b : c when ", " -> d end", 4},
		{"[a || b <- ", "]", 2}, {"[a || ", " <- b]", 2}, {"[a || ", "]", 1}, {"[", " || a]", 1}, {"[a | ", "]", 1}, {"begin a, ", ", b end", 1},
	} {
		tuples := 49 - 8*x.adds
		inside := nested("{", "a", "}", tuples)
		if got := node.Deep(shaped(t, nested(x.ahead, inside, x.behind, 8))); got != 50 {
			t.Errorf("%s: %d deep", x.ahead, got)
		}
		inside = nested("{", "a", "}", tuples+1)
		faulty(t, ofItems, nested(x.ahead, inside, x.behind, 8), api.ErrDeep, 8*len(x.ahead)+tuples+1)
		inside = nested("{", "a", "}", 1000)
		faulty(t, ofItems, nested(x.ahead, inside, x.behind, 8), api.ErrDeep, 8*len(x.ahead)+tuples+1)
	}
}

// P5.1: in a module a body's item has four nodes above it.
func TestDeepModules(t *testing.T) {
	const head = "f() -> a. g(X) -> b, "
	for _, x := range []struct{ ahead, behind string }{{head, "."}, {"f(", ") -> a."}, {"f() -> a; f(a, ", ") when b -> c. g() -> d."}} {
		n, fault := parse.Module(x.ahead + nested("{", "a", "}", 45) + x.behind)
		if fault != (api.Fault{}) || node.Deep(n) != 50 || !node.Right(n) {
			t.Errorf("%s: %v, %d deep", x.ahead, fault, node.Deep(n))
		}
		faulty(t, ofModules, x.ahead+nested("{", "a", "}", 46)+x.behind, api.ErrDeep, len(x.ahead)+46)
		faulty(t, ofModules, x.ahead+nested("{", "{}", "}", 5000)+x.behind, api.ErrDeep, len(x.ahead)+46)
	}
	const guarded = "f() when a; b, "
	n, fault := parse.Module(guarded + nested("{", "a", "}", 44) + " -> a.")
	if fault != (api.Fault{}) || node.Deep(n) != 50 {
		t.Errorf("%v, %d deep", fault, node.Deep(n))
	}
	faulty(t, ofModules, guarded+nested("{", "a", "}", 45)+" -> a.", api.ErrDeep, len(guarded)+45)
}

// P5.1: the first of several that are too deep, as they stand in the tree; a node that stands there is no kid of it.
func TestFirstTooDeep(t *testing.T) {
	deep := func(times int) string { return nested("{", "a", "}", times) }
	faulty(t, ofItems, "{"+deep(49)+", "+deep(60)+"}", api.ErrDeep, 50)
	faulty(t, ofItems, "{"+deep(48)+", "+deep(60)+"}", api.ErrDeep, 1+97+2+49)
	faulty(t, ofItems, "{b, "+deep(60)+", "+deep(49)+"}", api.ErrDeep, 4+49)
	faulty(t, ofItems, nested("{", "b, c", "}", 50), api.ErrDeep, 50)
	faulty(t, ofItems, nested("{", "(b), c", "}", 50), api.ErrDeep, 51)
	faulty(t, ofItems, "a"+strings.Repeat(" - a", 50), api.ErrDeep, 0)
	faulty(t, ofItems, "((a))"+strings.Repeat(" - a", 50), api.ErrDeep, 2)
	faulty(t, ofItems, deep(10)+strings.Repeat(" - a", 40), api.ErrDeep, 10)
	faulty(t, ofItems, deep(10)+strings.Repeat(" - a", 48), api.ErrDeep, 2)
	faulty(t, ofItems, "(b + c) * d"+strings.Repeat(" - a", 48), api.ErrDeep, 1)
	faulty(t, ofModules, "f() -> a. f() -> "+deep(50)+"; f() -> "+deep(60)+".", api.ErrDeep, 17+46)
}

// P5.1
func TestMany(t *testing.T) {
	as := func(times int) string { return strings.Repeat("a,", times-1) + "a" }
	for _, x := range []struct {
		kind          kindOfSource
		ahead, behind string
		others        int // nodes beside the items
	}{
		{ofItems, "{", "}", 1}, {ofItems, "[", "]", 1}, {ofItems, "f(", ")", 2}, {ofItems, "[(b) | {", "}]", 3}, {ofItems, "begin ", " end", 1},
		{ofItems, "fun (", ") -> a end", 6}, {ofItems, "fun () when ", " -> a end", 7}, {ofItems, "if ", " -> a end", 7}, {ofItems, "receive after 1 -> ", " end", 4},
		{ofItems, "try ", " catch a : b -> c end", 10}, {ofItems, "[b || c <- d, ", "]", 5}, {ofItems, "- f() = {", "}", 5}, {ofItems, "{fun f/1, \"a\", ", "}", 3},
		{ofModules, "f() -> ", ".", 6}, {ofModules, "f(", ") -> a.", 7}, {ofModules, "f() -> a. g() -> b; g() -> ", ".", 17},
	} {
		room := 16384 - x.others
		s := x.ahead + as(room) + x.behind
		n, fault := x.kind.parse(s)
		if fault != (api.Fault{}) || howMany(n) != 16384 || !node.Right(n) {
			t.Errorf("%s: %v, %d nodes", x.ahead, fault, howMany(n))
		}
		for _, more := range []int{1, 2, 1000} {
			faulty(t, x.kind, " "+x.ahead+as(room+more)+x.behind, api.ErrMany, 0)
		}
		faulty(t, x.kind, x.ahead+as(room+1)+x.behind+" )", api.ErrSyntax, len(x.ahead+as(room+1)+x.behind)+1)
		faulty(t, x.kind, x.ahead+as(room+1)+","+nested("{", "b", "}", 100)+x.behind, api.ErrDeep, deepIn(x.kind, x.ahead, x.behind)+2*room+2)
	}
	if n, fault := parse.Expr(nested("(", "{"+as(16383)+"}", ")", 1000)); fault != (api.Fault{}) || howMany(n) != 16384 {
		t.Errorf("%v", fault)
	}
}

// deepIn is where the first node that is too deep stands, of a row of a hundred tuples, one in another, between the two.
func deepIn(kind kindOfSource, ahead, behind string) int {
	_, fault := kind.parse(ahead + nested("{", "b", "}", 100) + behind)
	return fault.At
}

// P5.1, R2: which fault comes first.
func TestOrderOfFaults(t *testing.T) {
	deep := nested("{", "a", "}", 60)
	many := "{" + strings.Repeat("a,", 17000) + "a}"
	long := strings.Repeat(" ", api.MaxSource)
	for _, kind := range []kindOfSource{ofItems, ofModules} {
		for _, s := range []string{" ", "?", "'", ")", "a", deep, many} {
			faulty(t, kind, s+long, api.ErrLong, 0)
			faulty(t, kind, long+s, api.ErrLong, 0)
		}
		faulty(t, kind, ") ? '", api.ErrByte, 2)
		faulty(t, kind, ") 'a ?", api.ErrToken, 2)
		faulty(t, kind, ") 1a ?", api.ErrToken, 2)
		faulty(t, kind, "f( "+deep+") $", api.ErrByte, 3+len(deep)+2)
		faulty(t, kind, "f( "+many+") \"", api.ErrToken, 3+len(many)+2)
	}
	faulty(t, ofItems, deep+" b", api.ErrSyntax, len(deep)+1)
	faulty(t, ofItems, many+" b", api.ErrSyntax, len(many)+1)
	faulty(t, ofItems, "["+deep+", "+many+", ", api.ErrSyntax, len(deep)+len(many)+5)
	faulty(t, ofItems, "["+many+", "+deep+"]", api.ErrDeep, len(many)+3+49)
	faulty(t, ofItems, "["+deep+", "+many+"]", api.ErrDeep, 50)
	faulty(t, ofItems, many, api.ErrMany, 0)
	faulty(t, ofModules, "f() -> "+deep+", "+many, api.ErrSyntax, len(deep)+len(many)+9)
	faulty(t, ofModules, "f() -> "+many+", "+deep+". ", api.ErrDeep, 7+len(many)+2+46)
	faulty(t, ofModules, "f() -> "+many+"; g", api.ErrSyntax, 7+len(many)+2)
	faulty(t, ofModules, "f() -> "+many+". ", api.ErrMany, 0)
	faulty(t, ofItems, strings.Repeat(" ", api.MaxSource-1)+")", api.ErrSyntax, api.MaxSource-1)
	parsed(t, ofItems, strings.Repeat(" ", api.MaxSource-1)+"a", "'a@65535")
}

// R1: sources as long as may be, as deep as they can be.
func TestDeepestSources(t *testing.T) {
	fill := func(s string) string { return strings.Repeat(s, api.MaxSource/len(s)) }
	for _, s := range []string{"(", "{", "[", "-+", "f(", "(a)(", "a=", "a!", "a++", "[a|", "[a||", "[a||b<-", "fun(", "fun()when ", "fun()->", "if ", "if a->", "case ", "case a of ", "case a of b->", "receive ", "receive after ", "receive after 1->", "try ", "try a catch b:", "try a catch b:c->", "begin ", "{a,", "not "} {
		source := fill(s)
		faulty(t, ofItems, source, api.ErrSyntax, len(source))
	}
	inModule := "f()->" + strings.Repeat("{", api.MaxSource-5)
	faulty(t, ofModules, inModule, api.ErrSyntax, len(inModule))
	faulty(t, ofItems, nested("{", "a", "}", 32767), api.ErrDeep, 50)
	faulty(t, ofItems, "a"+strings.Repeat("+a", 32767), api.ErrDeep, 0)
	faulty(t, ofItems, "a"+strings.Repeat("=a", 32767), api.ErrDeep, 98)
	faulty(t, ofItems, "a"+strings.Repeat("()", 32767), api.ErrDeep, 0)
	parsed(t, ofItems, nested("(", "a", ")", 32767), "'a@32767")
	parsed(t, ofItems, nested("(", "a", ")", 16000)+"+"+nested("(", "b", ")", 16000), "+2@0('a@16000 'b@48002)")
	faulty(t, ofItems, nested("(", "a", ")", 32767)[:65534], api.ErrSyntax, 65534)
	faulty(t, ofItems, fill("a "), api.ErrSyntax, 2)
	faulty(t, ofModules, fill("f()->a. "), api.ErrMany, 0)
}

// R3, R4
func TestAnswersAreNew(t *testing.T) {
	for s, kind := range map[string]kindOfSource{
		"[f(X)(Y, \"t\") || {X, [_ | Z]} <- a + b - 'c d', fun g/1]":                                                ofItems,
		"fun (A, B) when c; d, e -> f; () -> receive a -> b; c -> d after 1 -> {}, [] end end":                      ofItems,
		"f(X) when X > 1; X == a -> try X, a catch b : C -> if d -> begin e end end end; f(_) -> - 1. g() -> a, b.": ofModules,
	} {
		source := strings.Clone(s)
		first, _ := kind.parse(source)
		want := told(first)
		place := func(s string) uintptr { return uintptr(unsafe.Pointer(unsafe.StringData(s))) }
		each(first, func(n api.Node) {
			if p := place(n.Text); n.Text != "" && place(source) <= p && p < place(source)+uintptr(len(source)) {
				t.Errorf("%s: a piece of the source itself", n.Text)
			}
		})
		second, _ := kind.parse(source)
		disjoint(t, first)
		wipe(first)
		if third, _ := kind.parse(source); told(second) != want || told(third) != want {
			t.Errorf("%s, %s, not %s", told(second), told(third), want)
		}
	}
}

func each(n api.Node, look func(n api.Node)) {
	look(n)
	for _, kid := range n.Kids {
		each(kid, look)
	}
}

// disjoint asks that no two rows of kids share memory, not even room behind their ends.
func disjoint(t *testing.T, n api.Node) {
	t.Helper()
	rows := map[*api.Node]int{}
	each(n, func(n api.Node) {
		room := n.Kids[:cap(n.Kids)]
		for i := range room {
			rows[&room[i]]++
		}
	})
	for p, times := range rows {
		if times > 1 {
			t.Errorf("%s: in two rows", told(*p))
		}
	}
}

// wipe spoils a tree, room behind the ends of rows and all.
func wipe(n api.Node) {
	for _, kid := range n.Kids {
		wipe(kid)
	}
	clear(n.Kids[:cap(n.Kids)])
}

// P5.2: brackets around any item of a tree, or around all of them.
func TestBracketsChangePlacesAlone(t *testing.T) {
	for _, s := range grammarItems {
		for times := range 4 {
			same(t, s, nested("(", s, ")", times))
			same(t, "{"+s+"}", "{"+nested("(", s, ")", times)+"}")
			same(t, "["+s+" || X <- "+s+"]", "[("+s+") || (X) <- ("+s+")]")
			same(t, "f("+s+", a)", "(f)("+nested("(", s, ")", times)+", (a))")
			same(t, "begin "+s+", "+s+" end", "begin ("+s+"), "+s+" end")
			same(t, "case "+s+" of "+s+" when "+s+" -> "+s+" end", "case ("+s+") of ("+s+") when ("+s+") -> ("+s+") end")
			same(t, "try a catch b : "+s+" -> c end", "(try (a) catch b : ("+s+") -> (c) end)")
			same(t, "receive after "+s+" -> "+s+" end", "(receive after ("+s+") -> ("+s+") end)")
			same(t, "a = "+s, "(a = ("+s+"))")
		}
	}
}

// R1: any bytes have an answer, and it is one of the two; P5.2: what is parsed is right.
func FuzzSources(f *testing.F) {
	for _, s := range append(append([]string{"?", "'", "f( -> 1."}, grammarItems...), grammarModules...) {
		f.Add(s)
	}
	f.Fuzz(func(t *testing.T, s string) {
		for _, kind := range []kindOfSource{ofItems, ofModules} {
			n, fault := kind.parse(s)
			if fault == (api.Fault{}) {
				if !node.Right(n) || (n.Kind == api.NodeModule) != (kind.start == ofModules.start) {
					t.Errorf("%q: %s", s, told(n))
				}
				continue
			}
			if !zero(n) || fault.Err == api.OK || fault.At < 0 || fault.At > len(s) {
				t.Errorf("%q: %v, %s", s, fault, told(n))
			}
		}
	})
}
