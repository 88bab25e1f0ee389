// Package world is what all worlds have (shared/doc/17-model.md), whatever their processes go by. A layer that has such processes embeds it.
package world

import (
	"pigeonhole/api"
	"pigeonhole/clock"
	"pigeonhole/link"
	"pigeonhole/mail"
	"pigeonhole/name"
	"pigeonhole/step"
	"pigeonhole/term"
)

// maxFuel is the greatest fuel.
const maxFuel = 1<<31 - 1

// Process is what a world's processes are: chapter 13 says what its calls do, of Collect chapter 27.
type Process interface {
	Run(n int, m *mail.Box) step.Event
	Answer(t api.Term) api.Errno
	Raise(raised api.Term) api.Errno
	Over() api.Errno
	Time() (int, bool)
	Collect(all bool) api.Errno
}

// Making makes a process that begins with a fun of the program, which wants as many arguments as these.
type Making func(fun api.Term, args []api.Term) Process

// Function is one of the program's. A fun's Num is its place among all of them.
type Function struct {
	Name  string
	Arity int
	Extra int
}

// World is processes, and what is between them.
type World struct {
	functions []Function
	begin     Making
	answers   map[string]answering
	alive     []*resident // by rising pids
	pids      int         // how many processes were made
	refs      int         // how many references were made
	links     *link.Links
	names     *name.Names
	clock     *clock.Clock
	out       []api.Term
	ended     []api.Ended
	fuel      int
	spent     int // of the fuel
}

// New is a world without processes; nil, if there is none with that fuel.
func New(functions []Function, fuel int, begin Making) *World {
	if fuel < 0 || fuel > maxFuel {
		return nil
	}
	w := &World{functions: functions, begin: begin, fuel: fuel, links: link.New(), names: name.New(), clock: clock.New()}
	w.answers = w.methods()
	return w
}

// Start has a process begin with the function of that name, and of as many arguments.
func (w *World) Start(f string, args []api.Term) api.Errno {
	for _, t := range args {
		if !term.Right(t) {
			return api.ErrArg
		}
	}
	num, ok := w.named(f, len(args))
	switch {
	case !ok:
		return api.ErrNone
	case w.full():
		return api.ErrFull
	}
	w.enter(api.Term{Kind: api.Fun, Num: num}, args)
	return api.OK
}

// named is the place of the first function of that name and arity that has captured nothing. Helpers have no name.
func (w *World) named(f string, arity int) (int, bool) {
	for i, x := range w.functions {
		if f != "" && x.Name == f && x.Extra == 0 && x.Arity == arity {
			return i, true
		}
	}
	return 0, false
}

// Do has one thing happen.
func (w *World) Do(x api.Step) api.Errno {
	switch x.Kind {
	case api.StepSlice:
		w.slice(x.K, x.N)
		return api.OK
	case api.StepTick:
		return w.tick(x.N)
	case api.StepKill:
		return w.toOne(x.K, func(p *resident) { w.end(p, atom("killed")) })
	case api.StepCollect:
		return w.toOne(x.K, func(p *resident) { p.Collect(x.N > 0) })
	default:
		return api.ErrArg
	}
}

// toOne does something to the process of that pid, if it is alive.
func (w *World) toOne(pid int, do func(p *resident)) api.Errno {
	p := w.find(pid)
	if p == nil {
		return api.ErrNone
	}
	do(p)
	return api.OK
}

// Ready is the pids of those that are ready, rising.
func (w *World) Ready() []int {
	var pids []int
	for _, p := range w.ready() {
		pids = append(pids, p.pid)
	}
	return pids
}

// See is what is seen.
func (w *World) See() api.Seen {
	s := api.Seen{Names: w.names.All(), Verdict: w.verdict(), Spent: w.spent, Clock: w.clock.Now()}
	for _, t := range w.out {
		s.Out = append(s.Out, term.Copy(t))
	}
	for _, e := range w.ended {
		s.Ended = append(s.Ended, api.Ended{Pid: e.Pid, Reason: term.Copy(e.Reason)})
	}
	return s
}

// What a world has come to.
const (
	allEnded  = 1
	allWait   = 2
	noFuel    = 3
	someReady = 4
)

func (w *World) verdict() int {
	switch {
	case len(w.alive) == 0:
		return allEnded
	case len(w.ready()) == 0:
		return allWait
	case w.spent >= w.fuel:
		return noFuel
	default:
		return someReady
	}
}
