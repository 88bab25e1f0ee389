package step

import (
	"pigeonhole/api"
	"pigeonhole/term"
)

// tooGreat is the reason where a term would be no right one.
const tooGreat = "system_limit"

func atom(text string) api.Term { return api.Term{Kind: api.Atom, Text: text} }

func tuple(items ...api.Term) api.Term { return api.Term{Kind: api.Tuple, Items: items} }

// ifRight is t, or the other one, if t is no right term.
func ifRight(t, otherwise api.Term) api.Term {
	if !term.Right(t) {
		return otherwise
	}
	return t
}

// fail raises the error of class error whose reason is one term, or a tuple of more.
func (x *Proc) fail(reason ...api.Term) {
	why := reason[0]
	if len(reason) > 1 {
		why = tuple(reason...)
	}
	x.raise(ifRight(tuple(atom("error"), why), tuple(atom("error"), atom(tooGreat))))
}

// isError says whether t may be raised.
func isError(t api.Term) bool {
	return t.Kind == api.Tuple && len(t.Items) == 2 && t.Items[0].Kind == api.Atom && term.Right(t)
}

// reasonOf is the reason for which a process ends that an error comes out of.
func reasonOf(raised api.Term) api.Term {
	class, reason := raised.Items[0].Text, raised.Items[1]
	if class != "throw" {
		return reason
	}
	return ifRight(tuple(atom("nocatch"), reason), atom(tooGreat))
}

// end has the process ended. It keeps nothing but its reason.
func (x *Proc) end(reason api.Term) {
	*x = Proc{self: x, told: reason, next: (*Proc).ended}
}

func (x *Proc) ended(*run) int {
	return Ends
}
