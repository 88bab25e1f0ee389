package world

import (
	"pigeonhole/api"
	"pigeonhole/term"
)

// Atoms that are errors' reasons, too.
const (
	badarg      = "badarg"
	noproc      = "noproc"
	systemLimit = "system_limit"
)

func atom(text string) api.Term { return api.Term{Kind: api.Atom, Text: text} }

func isAtom(t api.Term, text string) bool { return t.Kind == api.Atom && t.Text == text }

func truth(b bool) api.Term {
	if b {
		return atom("true")
	}
	return atom("false")
}

func pidTerm(n int) api.Term { return api.Term{Kind: api.Pid, Num: n} }

func refTerm(n int) api.Term { return api.Term{Kind: api.Ref, Num: n} }

func tuple(items ...api.Term) api.Term { return api.Term{Kind: api.Tuple, Items: items} }

// down is the letter to one who watches, by ref, a process that has ended.
func down(ref, pid int, reason api.Term) api.Term {
	return tuple(atom("DOWN"), refTerm(ref), atom("process"), pidTerm(pid), reason)
}

// fitting is a letter that is a right term: what is too great with the reason that stands last in it, has system_limit there.
func fitting(letter api.Term) api.Term {
	if term.Right(letter) {
		return letter
	}
	last := len(letter.Items) - 1
	return tuple(append(letter.Items[:last:last], atom(systemLimit))...)
}
