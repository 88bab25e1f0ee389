package bif

import (
	"pigeonhole/api"
	"pigeonhole/whole"
)

// number is an integer of which it is known that it has so few bits.
func number(t api.Term) int {
	n, _ := whole.Int(t)
	return int(n)
}

// reckoned is what + - * div rem make of two integers.
func reckoned(name string, a, b api.Term) (value api.Term, why string) {
	if !are(api.Int, a, b) {
		return api.Term{}, badArith
	}
	switch name {
	case "+":
		return fitting(whole.Add(a, b))
	case "-":
		return fitting(whole.Sub(a, b))
	case "*":
		return fitting(whole.Times(a, b))
	}
	quotient, rest, ok := whole.Div(a, b)
	switch {
	case !ok:
		return api.Term{}, badArith
	case name == "div":
		return quotient, none
	default:
		return rest, none
	}
}

func fitting(t api.Term, fits bool) (value api.Term, why string) {
	if !fits {
		return api.Term{}, tooGreat
	}
	return t, none
}

// size is a without its sign.
func size(a api.Term) (value api.Term, why string) {
	switch {
	case !are(api.Int, a):
		return api.Term{}, badArg
	case a.Neg:
		return fitting(whole.Sub(whole.Of(0), a))
	default:
		return a, none
	}
}

// total is the items' sum; what is wrong with the first ones is told, whatever comes behind them.
func total(items []api.Term) (value api.Term, why string) {
	sum := whole.Of(0)
	for _, item := range items {
		if sum, why = reckoned("+", sum, item); why != none {
			return api.Term{}, why
		}
	}
	return sum, none
}

// counted is the integers from a to b.
func counted(a, b api.Term) (value api.Term, why string) {
	if !are(api.Int, a, b) {
		return api.Term{}, badArg
	}
	apart, _ := whole.Sub(b, a)
	steps, few := whole.Int(apart) // where apart had no room it is no integer, and they are not few
	switch {
	case few && steps == -1:
		return row(api.List), none
	case whole.Compare(b, a) < 0:
		return api.Term{}, badArg
	case !few || steps >= api.MaxSize: // each item takes 2 at least: so many need not be made
		return api.Term{}, tooGreat
	}
	var items []api.Term
	for i := range steps + 1 {
		next, _ := whole.Add(a, whole.Of(i))
		items = append(items, next)
	}
	return row(api.List, items...), none
}
