package model_test

import (
	"cmp"
	"math"
	"slices"

	"pigeonhole/api"
	"pigeonhole/mail"
	"pigeonhole/sound"
	"pigeonhole/step"
	"pigeonhole/term"
)

// twin is the chapter written once more, in rows and without the layers of links, names and clock: what is still to be told, as processes end, stands in a row, what comes of a thing that is told ahead of all else in it.
type twin struct {
	p                      api.Program
	fuel, spent, refs, now int
	all                    []*one // each process that there was
	links                  [][2]int
	watches                [][3]int // a reference, who, whom
	names                  []api.Named
	out                    []api.Term
	ended                  []api.Ended
	todo                   []func()
	reached                map[string]int // how often the world has answered so, or done so
}

// one is a process: whether it is alive, traps, waits; for when, if it waits with a time, else -1.
type one struct {
	*step.Proc
	pid                 int
	box                 *mail.Box
	alive, traps, waits bool
	due                 int
}

func newTwin(p api.Program, fuel int, reached map[string]int) *twin {
	if sound.Check(p) != api.OK || fuel < 0 || fuel >= 1<<31 {
		return nil
	}
	return &twin{p: p, fuel: fuel, reached: reached}
}

func (w *twin) which(is func(x *one) bool) (out []*one) {
	for _, x := range w.all {
		if x.alive && is(x) {
			out = append(out, x)
		}
	}
	return out
}

func (w *twin) alive() []*one { return w.which(func(*one) bool { return true }) }

func (w *twin) ready() []*one { return w.which(func(x *one) bool { return !x.waits }) }

func (w *twin) get(pid int) *one {
	if pid < 1 || pid > len(w.all) || !w.all[pid-1].alive {
		return nil
	}
	return w.all[pid-1]
}

func (w *twin) isFull() bool { return len(w.alive()) == 32 || len(w.all) == 65536 }

func (w *twin) make(f api.Term, args []api.Term) *one {
	x := &one{Proc: step.New(w.p, f, args), pid: len(w.all) + 1, box: mail.New(), alive: true, due: -1}
	w.all = append(w.all, x)
	return x
}

func (w *twin) Start(f string, args []api.Term) api.Errno {
	if slices.ContainsFunc(args, func(t api.Term) bool { return !term.Right(t) }) {
		return api.ErrArg
	}
	at := slices.IndexFunc(w.p.Funcs, func(x api.Func) bool {
		return x.Name == f && x.Name != "" && x.Extra == 0 && x.Arity == len(args)
	})
	if at < 0 {
		return api.ErrNone
	}
	if w.isFull() {
		return api.ErrFull
	}
	w.make(fun(at), args)
	return api.OK
}

func (w *twin) Do(x api.Step) api.Errno {
	switch x.Kind {
	case 1:
		w.slice(x.K, x.N)
	case 2:
		if x.N < 0 || x.N > 1<<40-w.now {
			return api.ErrArg
		}
		w.now += x.N
		for _, x := range w.which(func(x *one) bool { return x.due >= 0 && x.due <= w.now }) {
			x.Over()
			w.reached["over"]++
			if !x.waits {
				w.reached["over of one that is ready"]++
			}
			x.due, x.waits = -1, false
		}
	case 3, 4:
		if w.get(x.K) == nil {
			return api.ErrNone
		}
		if x.Kind == 3 {
			w.end(x.K, atom("killed"))
			w.settle()
		}
	default:
		return api.ErrArg
	}
	return api.OK
}

func (w *twin) slice(k, n int) {
	ready := w.ready()
	n = min(n, w.fuel-w.spent)
	if n < 1 || len(ready) == 0 {
		return
	}
	place := k % len(ready)
	if place < 0 {
		place += len(ready)
	}
	x := ready[place]
	for first := true; ; first = false {
		e := x.Run(n, x.box)
		n, w.spent = n-e.Took, w.spent+e.Took
		if e.Kind == step.Waits {
			x.waits = true
			if e.Took == 0 && first {
				w.reached["woken in vain"]++
				return
			}
		}
		x.due = -1
		switch e.Kind {
		case step.Waits:
			if after, ok := x.Time(); ok {
				x.due = w.now + after
			}
			return
		case step.Ends:
			w.end(x.pid, e.Reason)
			w.settle()
			return
		case step.Spent:
			return
		}
		value, wrong := w.answer(x, e.Name, e.Args)
		w.settle()
		w.reached[e.Name+" "+wrong]++
		switch {
		case !x.alive:
			w.reached["ended by what it asked"]++
			return
		case wrong != "":
			x.Raise(tuple(atom("error"), atom(wrong)))
		default:
			x.Answer(value)
		}
	}
}

// ahead has these be done next.
func (w *twin) ahead(todo ...func()) { w.todo = append(todo, w.todo...) }

// settle does what is to be done.
func (w *twin) settle() {
	for len(w.todo) > 0 {
		next := w.todo[0]
		w.todo = w.todo[1:]
		next()
	}
}

func (w *twin) end(pid int, reason api.Term) {
	w.all[pid-1].alive = false
	w.ended = append(w.ended, api.Ended{Pid: pid, Reason: reason})
	w.names = slices.DeleteFunc(w.names, func(n api.Named) bool { return n.Pid == pid })
	w.all[pid-1].due = -1
	var todo []func()
	for other := range len(w.all) + 1 {
		if w.linked(pid, other) {
			todo = append(todo, func() { w.signal(other, pid, reason) })
		}
	}
	for _, m := range w.watches { // by their references: so they were made
		if m[2] == pid {
			todo = append(todo, func() {
				w.reached["down"]++
				w.send(m[1], tuple(atom("DOWN"), ref(m[0]), atom("process"), api.Term{Kind: api.Pid, Num: pid}, reason))
			})
		}
	}
	w.links = slices.DeleteFunc(w.links, func(l [2]int) bool { return l[0] == pid || l[1] == pid })
	w.watches = slices.DeleteFunc(w.watches, func(m [3]int) bool { return m[1] == pid || m[2] == pid })
	w.ahead(todo...)
}

func (w *twin) linked(a, b int) bool {
	return slices.Contains(w.links, [2]int{a, b}) || slices.Contains(w.links, [2]int{b, a})
}

func (w *twin) signal(to, from int, reason api.Term) {
	x := w.get(to)
	if x == nil {
		w.reached["signal to none"]++
	} else if x.traps {
		w.reached["signal to one that traps"]++
		w.send(to, tuple(atom("EXIT"), pid(from), reason))
	} else if entire(reason) != "normal" {
		w.reached["signal that ends"]++
		w.end(to, reason)
	}
}

func (w *twin) send(to int, t api.Term) {
	x := w.get(to)
	if x == nil {
		return
	}
	if !term.Right(t) {
		w.reached["letter too great"]++
		t.Items[len(t.Items)-1] = atom("system_limit")
	}
	if x.box.Put(t) == api.ErrFull {
		w.reached["box full"]++
		w.end(to, atom("system_limit"))
		return
	}
	x.waits = false
}

func (w *twin) whose(name string) int {
	for _, n := range w.names {
		if n.Name == name {
			return n.Pid
		}
	}
	return 0
}

// spawn makes a process, and its reference, if there is to be one.
func (w *twin) spawn(f api.Term, watched bool) (x *one, wrong string) {
	if f.Kind != api.Fun || f.Num >= len(w.p.Funcs) || w.p.Funcs[f.Num].Arity != len(f.Items) || w.p.Funcs[f.Num].Extra != len(f.Items) {
		return nil, "badarg"
	}
	if w.isFull() || watched && w.refs == 1<<20 {
		return nil, "system_limit"
	}
	return w.make(f, nil), ""
}

func (w *twin) answer(me *one, name string, args []api.Term) (value api.Term, wrong string) {
	var first, second api.Term
	for i, t := range args {
		if i == 0 {
			first = t
		} else {
			second = t
		}
	}
	isPid, isAtom := first.Kind == api.Pid, first.Kind == api.Atom
	yes := atom("true")
	other := w.get(first.Num)
	switch name {
	case "self":
		return pid(me.pid), ""
	case "make_ref":
		if w.refs == 1<<20 {
			return value, "system_limit"
		}
		w.refs++
		return ref(w.refs), ""
	case "now":
		return num(int64(w.now)), ""
	case "print":
		w.out = append(w.out, first)
		return atom("ok"), ""
	case "spawn", "spawn_link", "spawn_monitor":
		x, wrong := w.spawn(first, name == "spawn_monitor")
		switch {
		case wrong != "":
			return value, wrong
		case name == "spawn_link":
			w.links = append(w.links, [2]int{x.pid, me.pid})
		case name == "spawn_monitor":
			w.refs++
			w.watches = append(w.watches, [3]int{w.refs, me.pid, x.pid})
			return tuple(pid(x.pid), ref(w.refs)), ""
		}
		return pid(x.pid), ""
	case "link":
		switch {
		case !isPid:
			return value, "badarg"
		case first.Num == me.pid:
			return yes, ""
		case other == nil:
			return value, "noproc"
		case !w.linked(me.pid, other.pid):
			w.links = append(w.links, [2]int{me.pid, other.pid})
		}
		return yes, ""
	case "unlink":
		if !isPid {
			return value, "badarg"
		}
		w.links = slices.DeleteFunc(w.links, func(l [2]int) bool {
			return l == [2]int{me.pid, first.Num} || l == [2]int{first.Num, me.pid}
		})
		return yes, ""
	case "monitor":
		switch {
		case !isPid:
			return value, "badarg"
		case w.refs == 1<<20:
			return value, "system_limit"
		}
		w.refs++
		if other != nil {
			w.watches = append(w.watches, [3]int{w.refs, me.pid, first.Num})
		} else {
			w.reached["monitor of none"]++
			w.send(me.pid, tuple(atom("DOWN"), ref(w.refs), atom("process"), first, atom("noproc")))
		}
		return ref(w.refs), ""
	case "demonitor":
		if first.Kind != api.Ref {
			return value, "badarg"
		}
		w.watches = slices.DeleteFunc(w.watches, func(m [3]int) bool { return m[0] == first.Num && m[1] == me.pid })
		return yes, ""
	case "exit":
		if !isPid {
			return value, "badarg"
		}
		if other != nil && entire(second) == "kill" {
			w.end(first.Num, atom("killed"))
		} else if other != nil {
			w.signal(first.Num, me.pid, second)
		}
		return yes, ""
	case "trap_exit":
		if s := entire(first); s != "true" && s != "false" {
			return value, "badarg"
		}
		before := me.traps
		me.traps = entire(first) == "true"
		if before {
			return yes, ""
		}
		return atom("false"), ""
	case "!":
		to := first.Num
		if isAtom {
			to = w.whose(first.Text)
		}
		if !isPid && (!isAtom || to == 0) {
			return value, "badarg"
		}
		w.send(to, second)
		return second, ""
	case "register":
		if !isAtom || first.Text == "undefined" || second.Kind != api.Pid || w.get(second.Num) == nil {
			return value, "badarg"
		}
		for _, n := range w.names {
			if n.Name == first.Text || n.Pid == second.Num {
				return value, "badarg"
			}
		}
		w.names = append(w.names, api.Named{Name: first.Text, Pid: second.Num})
		return yes, ""
	case "unregister":
		if !isAtom || w.whose(first.Text) == 0 {
			return value, "badarg"
		}
		w.names = slices.DeleteFunc(w.names, func(n api.Named) bool { return n.Name == first.Text })
		return yes, ""
	case "whereis":
		if !isAtom {
			return value, "badarg"
		}
		if at := w.whose(first.Text); at > 0 {
			return pid(at), ""
		}
		return atom("undefined"), ""
	}
	panic("asked is " + name)
}

func (w *twin) See() api.Seen {
	s := api.Seen{Out: w.out, Ended: w.ended, Names: slices.Clone(w.names), Spent: w.spent, Clock: w.now, Verdict: 4}
	slices.SortFunc(s.Names, func(a, b api.Named) int { return cmp.Compare(a.Name, b.Name) })
	if w.spent == w.fuel {
		s.Verdict = 3
	}
	if len(w.ready()) == 0 {
		s.Verdict = 2
	}
	if len(w.alive()) == 0 {
		s.Verdict = 1
	}
	return s
}

func (w *twin) Ready() []int {
	var out []int
	for _, x := range w.ready() {
		out = append(out, x.pid)
	}
	return out
}

// extremes are numbers of all kinds.
func extremes() []int {
	return []int{math.MinInt, math.MinInt + 1, -1 << 40, math.MinInt32, -5, -1, 0, 1, 2, 31, 32, 33, math.MaxInt32, 1 << 40, 1<<40 + 1, math.MaxInt - 1, math.MaxInt}
}
