package world

import (
	"slices"

	"pigeonhole/api"
	"pigeonhole/mail"
)

// resident is a process that is alive.
type resident struct {
	Process
	pid   int
	box   *mail.Box
	traps bool
	ready bool // else it waits
}

// full tells whether no process can be made.
func (w *World) full() bool {
	return len(w.alive) >= api.MaxProcs || w.pids >= api.MaxPids
}

// enter makes a process, and answers its pid.
func (w *World) enter(fun api.Term, args []api.Term) int {
	w.pids++
	p := &resident{Process: w.begin(fun, args), pid: w.pids, box: mail.New(), ready: true}
	w.alive = append(w.alive, p)
	return p.pid
}

// find is the process of that pid; nil, if it is not alive.
func (w *World) find(pid int) *resident {
	for _, p := range w.alive {
		if p.pid == pid {
			return p
		}
	}
	return nil
}

// lives tells whether the process of that pid is alive.
func (w *World) lives(pid int) bool {
	return w.find(pid) != nil
}

// ready is those that are ready, by rising pids.
func (w *World) ready() []*resident {
	var ready []*resident
	for _, p := range w.alive {
		if p.ready {
			ready = append(ready, p)
		}
	}
	return ready
}

// end has p end with a reason. Who ends for that has done so ahead of the next one who is told.
func (w *World) end(p *resident, reason api.Term) {
	w.alive = slices.DeleteFunc(w.alive, func(other *resident) bool { return other == p })
	w.ended = append(w.ended, api.Ended{Pid: p.pid, Reason: reason})
	w.names.End(p.pid)
	w.clock.Drop(p.pid)
	linked, watched := w.links.End(p.pid)
	for _, other := range linked {
		w.signal(other, p.pid, reason)
	}
	for _, m := range watched {
		w.send(m.Who, down(m.Ref, p.pid, reason))
	}
}

// signal has a signal come to a process from another one.
func (w *World) signal(to, from int, reason api.Term) {
	p := w.find(to)
	switch {
	case p == nil:
	case p.traps:
		w.send(to, tuple(atom("EXIT"), pidTerm(from), reason))
	case !isAtom(reason, "normal"):
		w.end(p, reason)
	}
}

// send sends a letter: a right term, or a tuple that is none for its last item.
func (w *World) send(to int, letter api.Term) {
	p := w.find(to)
	if p == nil {
		return
	}
	if p.box.Put(fitting(letter)) != api.OK {
		w.end(p, atom(systemLimit))
		return
	}
	p.ready = true
}
