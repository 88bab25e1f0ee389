package world

import (
	"pigeonhole/api"
	"pigeonhole/whole"
)

// answer is what the world tells one that has asked: a value, or, if there is a wrong, the error of class error with that atom.
type answer struct {
	value api.Term
	wrong string
}

// answering does what the process p has asked for.
type answering func(p *resident, args []api.Term) answer

// methods are what is done for what is asked, by its name.
func (w *World) methods() map[string]answering {
	return map[string]answering{
		"self":          w.self,
		"make_ref":      w.makeRef,
		"now":           w.now,
		"print":         w.print,
		"spawn":         w.spawn,
		"spawn_link":    w.spawnLink,
		"spawn_monitor": w.spawnMonitor,
		"link":          w.link,
		"unlink":        w.unlink,
		"monitor":       w.monitor,
		"demonitor":     w.demonitor,
		"exit":          w.exit,
		"trap_exit":     w.trapExit,
		"!":             w.post,
		"register":      w.register,
		"unregister":    w.unregister,
		"whereis":       w.whereis,
	}
}

// answer answers p, which has asked; it tells whether p is alive still: else there is nobody to be answered.
func (w *World) answer(p *resident, asked string, args []api.Term) bool {
	a := w.answers[asked](p, args)
	if !w.lives(p.pid) {
		return false
	}
	if a.wrong != "" {
		p.Raise(tuple(atom("error"), atom(a.wrong)))
	} else {
		p.Answer(a.value)
	}
	return true
}

func yes() answer { return answer{value: atom("true")} }

func (w *World) self(p *resident, _ []api.Term) answer {
	return answer{value: pidTerm(p.pid)}
}

func (w *World) makeRef(*resident, []api.Term) answer {
	if w.noRefs() {
		return answer{wrong: systemLimit}
	}
	return answer{value: refTerm(w.nextRef())}
}

// noRefs tells whether no reference can be made.
func (w *World) noRefs() bool {
	return w.refs >= api.MaxRefs
}

func (w *World) nextRef() int {
	w.refs++
	return w.refs
}

func (w *World) now(*resident, []api.Term) answer {
	return answer{value: whole.Of(int64(w.clock.Now()))}
}

func (w *World) print(_ *resident, args []api.Term) answer {
	w.out = append(w.out, args[0])
	return answer{value: atom("ok")}
}

// trapExit has p trap, or not, and tells what it did before.
func (w *World) trapExit(p *resident, args []api.Term) answer {
	traps := isAtom(args[0], "true")
	if !traps && !isAtom(args[0], "false") {
		return answer{wrong: badarg}
	}
	before := p.traps
	p.traps = traps
	return answer{value: truth(before)}
}

// post sends a letter to a pid, or to whom a name is.
func (w *World) post(_ *resident, args []api.Term) answer {
	to, ok := args[0].Num, args[0].Kind == api.Pid
	if args[0].Kind == api.Atom {
		to, ok = w.names.Find(args[0].Text)
	}
	if !ok {
		return answer{wrong: badarg}
	}
	w.send(to, args[1])
	return answer{value: args[1]}
}

// register has a name be that of a process.
func (w *World) register(_ *resident, args []api.Term) answer {
	name, whose := args[0], args[1]
	may := name.Kind == api.Atom && !isAtom(name, "undefined") && whose.Kind == api.Pid && w.lives(whose.Num)
	if !may || !w.names.Put(name.Text, whose.Num) {
		return answer{wrong: badarg}
	}
	return yes()
}

func (w *World) unregister(_ *resident, args []api.Term) answer {
	if args[0].Kind != api.Atom || !w.names.Take(args[0].Text) {
		return answer{wrong: badarg}
	}
	return yes()
}

func (w *World) whereis(_ *resident, args []api.Term) answer {
	if args[0].Kind != api.Atom {
		return answer{wrong: badarg}
	}
	pid, ok := w.names.Find(args[0].Text)
	if !ok {
		return answer{value: atom("undefined")}
	}
	return answer{value: pidTerm(pid)}
}
