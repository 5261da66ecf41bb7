package clause

import (
	"slices"

	"steelyard/api"
)

// Right tells whether a search may be.
func Right(s api.Search) bool {
	n := len(s.Value)
	if len(s.Level) != n || len(s.Reason) != n || len(s.Watch) != 2*n || s.Next < 0 || s.Next > len(s.Trail) {
		return false
	}
	isWrong := func(c api.Clause) bool { return c.Use < 0 || !areLiterals(c.Lits, n) }
	return !slices.ContainsFunc(s.Clauses, isWrong) && areWatched(s) && isTrail(s) && areHeads(s) && areLevels(s) && areReasons(s)
}

// areWatched tells whether just the first two literals of each clause are watched by it, once.
func areWatched(s api.Search) bool {
	count := 0
	for i, list := range s.Watch {
		lit := i/2 + 1
		if i%2 == 1 {
			lit = -lit
		}
		isWrong := func(at int) bool { return !slices.Contains(watchedOf(&s, at), lit) }
		if slices.ContainsFunc(list, isWrong) {
			return false
		}
		sorted := slices.Sorted(slices.Values(list))
		if len(slices.Compact(sorted)) != len(list) {
			return false
		}
		count += len(list)
	}
	return count == 2*len(s.Clauses)
}

// isTrail tells whether the trail has just the literals that are told true, each once.
func isTrail(s api.Search) bool {
	told := 0
	for _, value := range s.Value {
		if value < -1 || value > 1 {
			return false
		}
		told += value * value
	}
	isIn := make([]bool, len(s.Value))
	for _, lit := range s.Trail {
		if valueOf(s.Value, lit) != 1 || isIn[truthOf(lit)] {
			return false
		}
		isIn[truthOf(lit)] = true
	}
	return len(s.Trail) == told
}

// areHeads tells whether each level begins in the trail, behind where the one below it does, with a literal that no clause told.
func areHeads(s api.Search) bool {
	last := -1
	for _, head := range s.Heads {
		if head <= last || head >= len(s.Trail) || s.Reason[truthOf(s.Trail[head])] != -1 {
			return false
		}
		last = head
	}
	return true
}

// areLevels tells whether each truth has the level at which it was told, 0 if it wasn't.
func areLevels(s api.Search) bool {
	level := 0
	for i, lit := range s.Trail {
		if level < len(s.Heads) && s.Heads[level] == i {
			level++
		}
		if s.Level[truthOf(lit)] != level {
			return false
		}
	}
	for v, value := range s.Value {
		if value == 0 && s.Level[v] != 0 {
			return false
		}
	}
	return true
}

// areReasons tells whether each truth that has a reason followed of it, when it was told.
func areReasons(s api.Search) bool {
	ahead := make([]int, len(s.Value))
	for _, lit := range s.Trail {
		v := truthOf(lit)
		if at := s.Reason[v]; at != -1 && (at < 0 || at >= len(s.Clauses) || !follows(s.Clauses[at], lit, ahead)) {
			return false
		}
		ahead[v] = s.Value[v]
	}
	for v, value := range s.Value {
		if value == 0 && s.Reason[v] != -1 {
			return false
		}
	}
	return true
}

// follows tells whether a clause has a literal, and all others in it are told false.
func follows(c api.Clause, lit int, values []int) bool {
	isWrong := func(other int) bool { return other != lit && valueOf(values, other) != -1 }
	return slices.Contains(c.Lits, lit) && !slices.ContainsFunc(c.Lits, isWrong)
}
