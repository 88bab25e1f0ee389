package lint

// What has become of a name: neither, one of these, or both of them.
const (
	inScope = 1 << iota
	gone    // bound by a part of the clause behind which it is not in scope
)

// scope is the names of a part of a function's clause, and those of all that is around it.
type scope struct {
	names map[string]int
	outer *scope
}

func (s *scope) inner() *scope {
	return &scope{map[string]int{}, s}
}

// of is what has become of a name so far. What is further inside knows more of it.
func (s *scope) of(name string) int {
	for at := s; at != nil; at = at.outer {
		if known, ok := at.names[name]; ok {
			return known
		}
	}
	return 0
}

// bind brings a name into scope, unless it is; that it was gone ahead of that is kept.
// A name that is in scope stays with the part that has bound it.
func (s *scope) bind(name string) {
	if known := s.of(name); known&inScope == 0 {
		s.names[name] = known | inScope
	}
}

// apart goes through a part of which nothing is left behind it.
func (s *scope) apart(part func(inner *scope)) {
	part(s.inner())
}

// branch goes through a part behind which its names are gone.
func (s *scope) branch(part func(inner *scope)) {
	inner := s.inner()
	part(inner)
	for name := range inner.names {
		s.names[name] |= gone
	}
}

// aside goes through a part behind which its names are as if they had not been bound, but for those that are gone already.
func (s *scope) aside(part func(inner *scope)) {
	inner := s.inner()
	part(inner)
	for name, known := range inner.names {
		if known&gone != 0 {
			s.names[name] |= gone
		}
	}
}
