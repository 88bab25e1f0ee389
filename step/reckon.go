package step

import (
	"slices"

	"pigeonhole/api"
	"pigeonhole/bif"
	"pigeonhole/match"
	"pigeonhole/term"
)

// begin has a node reckoned next, with the variables that the process has.
func (x *Proc) begin(c *api.Core) {
	x.node, x.next = c, (*Proc).reckon
}

// tell has a value handed on next.
func (x *Proc) tell(value api.Term) {
	x.told, x.next = value, (*Proc).handOn
}

// raise has an error handed on next: a tuple of class and reason.
func (x *Proc) raise(raised api.Term) {
	x.told, x.next = raised, (*Proc).unwind
}

// reckon begins with a node.
func (x *Proc) reckon(*run) int {
	switch c := x.node; c.Kind {
	case api.CoreConst:
		x.tell(c.Term)
	case api.CoreVar:
		x.tell(x.vars.Values[c.Num])
	case api.CoreLet:
		x.wait(&naming{x.place()}, &c.Kids[0])
	case api.CoreCase:
		x.wait(&choosing{x.place()}, &c.Kids[0])
	case api.CoreTry:
		x.wait(&trying{x.place()}, &c.Kids[0])
	case api.CoreReceive:
		x.beginReceive(c)
	default:
		(&row{place: x.place()}).goOn(x)
	}
	return goesOn
}

// beginReceive has the time of a receive reckoned, if it has one.
func (x *Proc) beginReceive(c *api.Core) {
	if c.Num == 1 {
		x.wait(&timing{x.place()}, &c.Kids[len(c.Kids)-2])
		return
	}
	x.time = never
	x.next = (*Proc).receive
}

// handOn tells what wants it the value that was come to.
func (x *Proc) handOn(*run) int {
	value, w := x.pop()
	if w != nil {
		w.take(x, value)
	} else {
		x.end(atom("normal"))
	}
	return goesOn
}

// unwind tells what wants a value that there is an error in its place.
func (x *Proc) unwind(*run) int {
	raised, w := x.pop()
	if w != nil {
		w.miss(x, raised)
	} else {
		x.end(reasonOf(raised))
	}
	return goesOn
}

// combine goes on with the node, all of whose kids have values.
func (x *Proc) combine(values []api.Term) {
	switch c := x.node; c.Kind {
	case api.CoreTuple:
		x.makes(api.Term{Kind: api.Tuple, Items: values})
	case api.CoreCons:
		x.makes(term.Cons(values[0], values[1]))
	case api.CoreFun:
		x.makes(api.Term{Kind: api.Fun, Num: c.Num, Items: values})
	case api.CoreFail:
		x.fail(append([]api.Term{atom(c.Text)}, values...)...)
	case api.CoreCall:
		x.values, x.next = values, (*Proc).call
	case api.CoreApply:
		x.values, x.next = values, (*Proc).apply
	default: // a CoreBif
		x.values, x.next = values, (*Proc).useBuiltIn
	}
}

// makes tells what was made of right terms, if it is not too great.
func (x *Proc) makes(t api.Term) {
	if !term.Right(t) {
		x.fail(atom(tooGreat))
		return
	}
	x.tell(t)
}

func (x *Proc) call(r *run) int {
	if !r.reduces() {
		return Spent
	}
	x.enter(x.node.Num, x.values)
	return goesOn
}

func (x *Proc) apply(r *run) int {
	if !r.reduces() {
		return Spent
	}
	fun, args := x.values[0], x.values[1:]
	switch {
	case fun.Kind != api.Fun:
		x.fail(atom("badfun"), fun)
	case !x.fits(fun, args):
		x.fail(atom("badarity"), fun)
	default:
		x.enter(fun.Num, slices.Concat(fun.Items, args))
	}
	return goesOn
}

// fits says whether a right fun's function takes what the fun has captured, and these arguments.
func (x *Proc) fits(fun api.Term, args []api.Term) bool {
	if fun.Num >= len(x.funcs) {
		return false
	}
	f := &x.funcs[fun.Num]
	return len(fun.Items) == f.Extra && len(fun.Items)+len(args) == f.Arity
}

// enter goes on with a function's body, its parameters having these values.
// Nothing of the function that is under way is kept: what of it wants a value stands on the stack.
func (x *Proc) enter(num int, values []api.Term) {
	f := &x.funcs[num]
	x.vars = match.New(f.Vars)
	for i, value := range values {
		x.vars.Has[i], x.vars.Values[i] = true, value
	}
	x.begin(&f.Body)
}

func (x *Proc) useBuiltIn(r *run) int {
	if !r.reduces() {
		return Spent
	}
	value, raised, ok := bif.Call(x.node.Text, x.values)
	switch {
	case !ok: // of a sound program, whose values are right terms: of Kind World
		x.next = (*Proc).ask
	case raised.Kind != 0:
		x.raise(raised)
	default:
		x.tell(value)
	}
	return goesOn
}

// ask asks the world, till it is answered.
func (x *Proc) ask(*run) int {
	return Asks
}

func (x *Proc) receive(r *run) int {
	if !r.reduces() {
		return Spent
	}
	r.box.Begin()
	x.next = (*Proc).look
	return goesOn
}

// look looks at the letters from the box's look on.
func (x *Proc) look(r *run) int {
	clauses := x.node.Kids
	if x.node.Num == 1 {
		clauses = clauses[:len(clauses)-2]
	}
	for {
		letter, ok := r.box.Next()
		switch {
		case ok && x.choose(clauses, letter):
			r.box.Take()
			return goesOn
		case ok:
			r.box.Skip()
		case x.time == 0:
			x.giveUp()
			return goesOn
		default:
			return Waits
		}
	}
}

// giveUp goes on with the last kid of a receive.
func (x *Proc) giveUp() {
	x.begin(&x.node.Kids[len(x.node.Kids)-1])
}
