package script

import "iter"

// scope is what some names tell of, by the marks of a sheet; it is within another scope, or in none.
type scope struct {
	sheet *sheet
	outer *scope
	marks map[string]int
}

// within gives a scope without names within a scope.
func (s *scope) within() *scope {
	return &scope{sheet: s.sheet, outer: s, marks: map[string]int{}}
}

// outward goes from a scope to the outermost one.
func (s *scope) outward() iter.Seq[*scope] {
	return func(yield func(*scope) bool) {
		for at := s; at != nil && yield(at); {
			at = at.outer
		}
	}
}

// find gives what the innermost scope that has a name tells of it; false, if none has it.
func (s *scope) find(name string) (int, bool) {
	for at := range s.outward() {
		if mark, ok := at.marks[name]; ok {
			return mark, true
		}
	}
	return 0, false
}
