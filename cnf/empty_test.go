package cnf

import "testing"

// No operator has no kids: what both and either are of an empty list no call shows.
func TestP131EmptyLists(t *testing.T) {
	b := newBuilder(1, 0, 1)
	if l := b.both(nil); l != 2 {
		t.Errorf("both of none is %d", l)
	}
	if l := b.either(nil); l != -2 {
		t.Errorf("either of none is %d", l)
	}
	if l, m := b.both([]int{-1}), b.either([]int{-1}); l != -1 || m != -1 || b.Bools != 2 || len(b.Clauses) != 1 {
		t.Errorf("of one: %d and %d, %d truths, %d clauses", l, m, b.Bools, len(b.Clauses))
	}
}
