package world

import (
	"pigeonhole/api"
	"pigeonhole/step"
)

// slice has one of those that are ready take at most n reductions.
func (w *World) slice(k, n int) {
	ready := w.ready()
	r := len(ready)
	n = min(n, w.fuel-w.spent)
	if n < 1 || r == 0 {
		return
	}
	w.run(ready[(k%r+r)%r], n) // % alone is below 0 where k is
}

// run has p take at most n reductions. What asks has taken its own already: so it is answered, and goes on, even where none is left.
func (w *World) run(p *resident, n int) {
	for {
		e := p.Run(n, p.box)
		n -= e.Took
		w.spent += e.Took
		if e.Kind == step.Waits && e.Took == 0 { // woken in vain: its time goes on as it was
			p.ready = false
			return
		}
		w.clock.Drop(p.pid) // where it waited it waits no more
		switch {
		case e.Kind == step.Asks && w.answer(p, e.Name, e.Args):
			continue
		case e.Kind == step.Waits:
			w.wait(p)
		case e.Kind == step.Ends:
			w.end(p, e.Reason)
		}
		return
	}
}

// wait has p wait, with a time, if it has one.
func (w *World) wait(p *resident) {
	p.ready = false
	if after, timed := p.Time(); timed {
		w.clock.Set(p.pid, after)
	}
}

// tick has the clock go on, and the time be over of those whose time has come.
func (w *World) tick(n int) api.Errno {
	due, ok := w.clock.Tick(n)
	if !ok {
		return api.ErrArg
	}
	for _, pid := range due {
		p := w.find(pid)
		p.Over()
		p.ready = true
	}
	return api.OK
}
