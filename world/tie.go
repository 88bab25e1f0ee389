package world

import "pigeonhole/api"

func (w *World) spawn(_ *resident, args []api.Term) answer {
	return w.spawning(args[0], w.full(), pidTerm)
}

func (w *World) spawnLink(p *resident, args []api.Term) answer {
	return w.spawning(args[0], w.full(), func(pid int) api.Term {
		w.links.Link(p.pid, pid)
		return pidTerm(pid)
	})
}

func (w *World) spawnMonitor(p *resident, args []api.Term) answer {
	return w.spawning(args[0], w.full() || w.noRefs(), func(pid int) api.Term {
		ref := w.nextRef()
		w.links.Watch(ref, p.pid, pid)
		return tuple(pidTerm(pid), refTerm(ref))
	})
}

// spawning makes a process of a fun, unless there is no room for it; tie ties it to the one that asks, and makes its pid what that is answered.
func (w *World) spawning(fun api.Term, noRoom bool, tie func(pid int) api.Term) answer {
	switch {
	case !w.isWhole(fun):
		return answer{wrong: badarg}
	case noRoom:
		return answer{wrong: systemLimit}
	}
	return answer{value: tie(w.enter(fun, nil))}
}

// isWhole tells whether a term is a fun of the program that wants no more arguments.
func (w *World) isWhole(t api.Term) bool {
	if t.Kind != api.Fun || t.Num >= len(w.functions) {
		return false
	}
	f := w.functions[t.Num]
	return f.Extra == f.Arity && len(t.Items) == f.Extra
}

func (w *World) link(p *resident, args []api.Term) answer {
	with := args[0]
	switch {
	case with.Kind != api.Pid:
		return answer{wrong: badarg}
	case !w.lives(with.Num):
		return answer{wrong: noproc}
	}
	w.links.Link(p.pid, with.Num) // with itself it is not, but may ask
	return yes()
}

func (w *World) unlink(p *resident, args []api.Term) answer {
	if args[0].Kind != api.Pid {
		return answer{wrong: badarg}
	}
	w.links.Unlink(p.pid, args[0].Num)
	return yes()
}

// monitor has p watch a process; of one that is not alive it is told at once.
func (w *World) monitor(p *resident, args []api.Term) answer {
	whom := args[0]
	switch {
	case whom.Kind != api.Pid:
		return answer{wrong: badarg}
	case w.noRefs():
		return answer{wrong: systemLimit}
	}
	ref := w.nextRef()
	if w.lives(whom.Num) {
		w.links.Watch(ref, p.pid, whom.Num)
	} else {
		w.send(p.pid, down(ref, whom.Num, atom(noproc)))
	}
	return answer{value: refTerm(ref)}
}

func (w *World) demonitor(p *resident, args []api.Term) answer {
	if args[0].Kind != api.Ref {
		return answer{wrong: badarg}
	}
	w.links.Unwatch(args[0].Num, p.pid)
	return yes()
}

// exit has a signal come to a process from p; kill is none, but ends that at once.
func (w *World) exit(p *resident, args []api.Term) answer {
	whom, reason := args[0], args[1]
	if whom.Kind != api.Pid {
		return answer{wrong: badarg}
	}
	if other := w.find(whom.Num); other != nil && isAtom(reason, "kill") {
		w.end(other, atom("killed"))
	} else {
		w.signal(whom.Num, p.pid, reason)
	}
	return yes()
}
