package simplex_test

import (
	"testing"

	"steelyard/api"
	"steelyard/nat"
	"steelyard/simplex"
)

// step tells an error, if a Step of a text doesn't come to this, with such reasons, or leaves another tableau.
func step(t *testing.T, text string, state int, reasons, want string) {
	t.Helper()
	b, x := nat.New(1), read(t, text)
	got, list, code := simplex.Step(b, &x)
	if got != state || code != api.OK || b.Over() || why(list) != reasons {
		t.Errorf("%s: %d, not %d; %v, over: %v, reasons %q, not %q", text, got, state, code, b.Over(), why(list), reasons)
	}
	is(t, text, x, want)
}

func TestP151Numbers(t *testing.T) {
	if simplex.Settled != 0 || simplex.Moved != 1 || simplex.Clash != 2 {
		t.Errorf("%d, %d, %d", simplex.Settled, simplex.Moved, simplex.Clash)
	}
}

func TestP151StepSettled(t *testing.T) {
	for _, text := range []string{
		" | ", " | 3", " | 3 | 1@3 | 2@3", "1: 2@0 | 1 2", "1: | 0 0", "1: 2@0 | 1 2 | 1@1 2@2 | 3@1 4@2", "1: 2@0 | 1 2 | - 2@1 | - 4@3",
		// at most, and a little less
		"1: 2@0 | 1-1d 2-2d | - 2@2-2d | - 4@2-2d", "1: 2@0 | 1-1d 2-2d | - 2@2-3d | - 4@2", "1: 1@0 | 1+1d 1+1d | - 2@1 | - 4@1+2d",
		// what is basic of none isn't asked
		" | 3 | 1@4 | 2@2", "1: 1@0 | 1 1 | 1@4 - | 2@0 -", "2: 1@0 1@1 | 0 5 5 | - 1@6 1@5 | 1@-1 - 1@5",
	} {
		step(t, text, simplex.Settled, "", text)
	}
}

// The basic one goes to the bound that it is beyond, by an unknown that takes its place.
func TestP151StepMoves(t *testing.T) {
	for _, c := range [][2]string{
		{"1: 2@0 | 0 0 | - 7@3 | - -", "0: 1/2@1 | 3/2 3 | - 7@3 | - -"}, {"1: 2@0 | 0 0 | - - | - 7@-3", "0: 1/2@1 | -3/2 -3 | - - | - 7@-3"}, {"1: -2@0 | 0 0 | - 7@3 | - -", "0: -1/2@1 | -3/2 3 | - 7@3 | - -"}, {"1: -2@0 | 0 0 | - - | - 7@-3", "0: -1/2@1 | 3/2 -3 | - - | - 7@-3"},
		// a little beyond it
		{"1: 1@0 | 3 3 | - 7@3+1d | - -", "0: 1@1 | 3+1d 3+1d | - 7@3+1d | - -"}, {"1: 3@0 | 1 3 | - - | - 7@3-1d", "0: 1/3@1 | 1-1/3d 3-1d | - - | - 7@3-1d"}, {"1: 1@0 | 3-1/2d 3-1/2d | - 7@3 | - -", "0: 1@1 | 3 3 | - 7@3 | - -"}, {"1: -1/2@0 | -2 1 | - 7@1+1d | - -", "0: -2@1 | -2-2d 1+1d | - 7@1+1d | - -"},
		// Its other bound doesn't matter, as long as both don't cross.
		{"1: 2@0 | 0 0 | - 7@3 | - 8@3", "0: 1/2@1 | 3/2 3 | - 7@3 | - 8@3"}, {"1: 2@0 | 9 18 | - 7@-4 | - 8@3", "0: 1/2@1 | 3/2 3 | - 7@-4 | - 8@3"},
		// Where they cross, and it is beyond both, it goes to the lower one.
		{"1: 2@0 | 2 4 | - 7@5 | - 8@3", "0: 1/2@1 | 5/2 5 | - 7@5 | - 8@3"}, {"1: 2@0 | 2 4 | - 7@4 | - 8@3", "0: 1/2@1 | 3/2 3 | - 7@4 | - 8@3"},
		// others follow, and what isn't in their rows doesn't; those in which it is have the other one now
		{"2: 1@0 1@1; 3: 1@0 -1@1; 4: 1@1 | 0 0 0 0 0 | - - 7@4 - - | - - - - -", "0: -1@1 1@2; 3: -2@1 1@2; 4: 1@1 | 4 0 4 4 0 | - - 7@4 - - | - - - - -"},
		{"5: 1@4; 3: 3@2 1@4; 0: 1@1 2@2 | 3 1 1 10 7 7 | - - - 7@13 - - | - - - - - 6@9", "5: 1@4; 2: 1/3@3 -1/3@4; 0: 1@1 2/3@3 -2/3@4 | 5 1 2 13 7 7 | - - - 7@13 - - | - - - - - 6@9"},
		// The one that is taken may go beyond its own bound, and so may the others.
		{"2: 1@0; 3: 1@0 | 0 0 0 0 | - - 7@4 - | 5@1 - - 6@1", "0: 1@2; 3: 1@2 | 4 0 4 4 | - - 7@4 - | 5@1 - - 6@1"},
	} {
		step(t, c[0], simplex.Moved, "", c[1])
	}
}

// Of those that are basic and beyond a bound the least one goes, whatever its row is.
func TestP151StepLeastBasic(t *testing.T) {
	for _, c := range [][2]string{
		{"2: 1@0; 3: 1@1 | 0 0 0 0 | - - 7@1 8@1 | - - - -", "0: 1@2; 3: 1@1 | 1 0 1 0 | - - 7@1 8@1 | - - - -"},
		{"3: 1@0; 2: 1@1 | 0 0 0 0 | - - 7@1 8@1 | - - - -", "3: 1@0; 1: 1@2 | 0 1 1 0 | - - 7@1 8@1 | - - - -"},
		{"3: 1@0; 2: 1@1 | 0 0 0 0 | - - 7@1 - | - - - 8@-1", "3: 1@0; 1: 1@2 | 0 1 1 0 | - - 7@1 - | - - - 8@-1"},
		{"3: 1@0; 2: 1@1 | 0 0 0 0 | - - - 8@1 | - - 7@-1 -", "3: 1@0; 1: 1@2 | 0 -1 -1 0 | - - - 8@1 | - - 7@-1 -"},
		// ones that are within come ahead of it
		{"4: 1@0; 1: 2@0; 3: 1@2; 5: 1@2 | 0 0 0 0 0 0 | 1@9 2@0 1@9 - 7@1 8@1 | - 3@0 - 1@0 - -", "0: 1@4; 1: 2@4; 3: 1@2; 5: 1@2 | 1 2 0 0 1 0 | 1@9 2@0 1@9 - 7@1 8@1 | - 3@0 - 1@0 - -"},
		{"5: 1@0; 3: 1@1; 4: 1@2 | 0 0 0 0 0 0 | - - - 7@1 8@1 9@1 | - - - - - -", "5: 1@0; 1: 1@3; 4: 1@2 | 0 1 0 1 0 0 | - - - 7@1 8@1 9@1 | - - - - - -"},
		{"5: 1@0; 4: 1@1; 3: 1@2 | 0 0 0 0 0 0 | - - - 7@1 8@1 9@1 | - - - - - -", "5: 1@0; 4: 1@1; 2: 1@3 | 0 0 1 1 0 0 | - - - 7@1 8@1 9@1 | - - - - - -"},
	} {
		step(t, c[0], simplex.Moved, "", c[1])
	}
	// Also where that is a clash, and another one could go.
	step(t, "3: 1@0; 2: 1@1 | 0 0 0 0 | - - 7@1 8@1 | - 5@0 - -", simplex.Clash, "1@7 1@5", "3: 1@0; 2: 1@1 | 0 0 0 0 | - - 7@1 8@1 | - 5@0 - -")
}

// Of the row's unknowns the least one is taken that can help.
func TestP151StepLeastHelp(t *testing.T) {
	for _, c := range [][2]string{
		// up, by one that stands above 0 times: without an upper bound, below it; at it, and beyond it, it can't
		{"2: 1@0 1@1 | 0 0 0 | 1@0 2@0 7@3 | - - -", "0: -1@1 1@2 | 3 0 3 | 1@0 2@0 7@3 | - - -"}, {"2: 1@0 1@1 | 0 0 0 | 1@0 2@0 7@3 | 3@1 - -", "0: -1@1 1@2 | 3 0 3 | 1@0 2@0 7@3 | 3@1 - -"},
		{"2: 1@0 1@1 | 0 0 0 | - - 7@3 | 3@0 - -", "1: -1@0 1@2 | 0 3 3 | - - 7@3 | 3@0 - -"}, {"2: 1@0 1@1 | 0 0 0 | - - 7@3 | 3@-1 - -", "1: -1@0 1@2 | 0 3 3 | - - 7@3 | 3@-1 - -"},
		// up, by one that stands below 0 times: without a lower bound, above it
		{"2: -1@0 1@1 | 0 0 0 | - - 7@3 | 1@0 2@0 -", "0: 1@1 -1@2 | -3 0 3 | - - 7@3 | 1@0 2@0 -"}, {"2: -1@0 1@1 | 0 0 0 | 3@-1 - 7@3 | 1@0 - -", "0: 1@1 -1@2 | -3 0 3 | 3@-1 - 7@3 | 1@0 - -"},
		{"2: -1@0 1@1 | 0 0 0 | 3@0 - 7@3 | - - -", "1: 1@0 1@2 | 0 3 3 | 3@0 - 7@3 | - - -"}, {"2: -1@0 1@1 | 0 0 0 | 3@1 - 7@3 | - - -", "1: 1@0 1@2 | 0 3 3 | 3@1 - 7@3 | - - -"},
		// down, by one that stands above 0 times: without a lower bound, above it
		{"2: 1@0 1@1 | 0 0 0 | - - - | 1@0 2@0 7@-3", "0: -1@1 1@2 | -3 0 -3 | - - - | 1@0 2@0 7@-3"}, {"2: 1@0 1@1 | 0 0 0 | 3@-1 - - | 1@0 2@0 7@-3", "0: -1@1 1@2 | -3 0 -3 | 3@-1 - - | 1@0 2@0 7@-3"},
		{"2: 1@0 1@1 | 0 0 0 | 3@0 - - | - - 7@-3", "1: -1@0 1@2 | 0 -3 -3 | 3@0 - - | - - 7@-3"}, {"2: 1@0 1@1 | 0 0 0 | 3@1 - - | - - 7@-3", "1: -1@0 1@2 | 0 -3 -3 | 3@1 - - | - - 7@-3"},
		// down, by one that stands below 0 times: without an upper bound, below it
		{"2: -1@0 1@1 | 0 0 0 | 1@0 2@0 - | - - 7@-3", "0: 1@1 -1@2 | 3 0 -3 | 1@0 2@0 - | - - 7@-3"}, {"2: -1@0 1@1 | 0 0 0 | 1@0 - - | 3@1 - 7@-3", "0: 1@1 -1@2 | 3 0 -3 | 1@0 - - | 3@1 - 7@-3"},
		{"2: -1@0 1@1 | 0 0 0 | - - - | 3@0 - 7@-3", "1: 1@0 1@2 | 0 -3 -3 | - - - | 3@0 - 7@-3"}, {"2: -1@0 1@1 | 0 0 0 | - - - | 3@-1 - 7@-3", "1: 1@0 1@2 | 0 -3 -3 | - - - | 3@-1 - 7@-3"},
		// just by a delta
		{"2: 1@0 1@1 | 0 0 0 | - - 7@3 | 3@0+1d - -", "0: -1@1 1@2 | 3 0 3 | - - 7@3 | 3@0+1d - -"}, {"2: 1@0 1@1 | 0 0 0 | - - 7@3 | 3@0-1d - -", "1: -1@0 1@2 | 0 3 3 | - - 7@3 | 3@0-1d - -"}, {"2: 1@0 1@1 | 0+1d 0 0+1d | 3@0 - - | - - 7@-3", "0: -1@1 1@2 | -3 0 -3 | 3@0 - - | - - 7@-3"},
		// the last one of many, and one of the middle; a bound on the side that it doesn't go to doesn't matter
		{"5: 1@0 -2@1 3@2 -4@3 5@4 | 0 0 0 0 0 0 | - 2@0 - 4@0 - 7@10 | 1@0 - 3@0 - - -", "4: -1/5@0 2/5@1 -3/5@2 4/5@3 1/5@5 | 0 0 0 0 2 10 | - 2@0 - 4@0 - 7@10 | 1@0 - 3@0 - - -"},
		{"5: 1@0 -2@1 3@2 -4@3 5@4 | 0 0 0 0 0 0 | 1@0 2@0 3@0 - - 7@12 | 1@0 2@0 3@9 - - -", "2: -1/3@0 2/3@1 4/3@3 -5/3@4 1/3@5 | 0 0 4 0 0 12 | 1@0 2@0 3@0 - - 7@12 | 1@0 2@0 3@9 - - -"},
		// What isn't in the row can't help.
		{"3: 1@2; 4: 1@0 | 0 0 0 0 0 | - - - 7@1 - | - - - - -", "2: 1@3; 4: 1@0 | 0 0 1 1 0 | - - - 7@1 - | - - - - -"},
	} {
		step(t, c[0], simplex.Moved, "", c[1])
	}
}

// Where none can help, the bound's literal is told, and of each unknown that of the bound at which it is, as often as it stands.
func TestP151StepClash(t *testing.T) {
	for _, c := range [][2]string{
		{"1: | 0 0 | - 7@1 | - -", "1@7"}, {"1: | 0 0 | - - | - -7@-1", "1@-7"}, {"1: | 0 0 | - 7@0+1d | - -", "1@7"},
		{"2: 1@0 1@1 | 1 1 2 | 1@1 2@1 - | - - -3@1", "1@-3 1@1 1@2"}, {"2: 1@0 1@1 | 1 1 2 | - - 3@9 | 1@1 2@1 -", "1@3 1@1 1@2"},
		// to go up: upper ones where they stand above 0 times, else lower ones; to go down the other way round
		{"4: 2@0 -1/3@1 5@2 -7/2@3 | 1 1 1 1 19/6 | 10@1 11@1 12@1 13@1 30@4 | 20@1 21@1 22@1 23@1 40@5", "1@30 2@20 1/3@11 5@22 7/2@13"},
		{"4: 2@0 -1/3@1 5@2 -7/2@3 | 1 1 1 1 19/6 | 10@1 11@1 12@1 13@1 30@1 | 20@1 21@1 22@1 23@1 40@2", "1@40 2@10 1/3@21 5@12 7/2@23"},
		// those that are beyond the bound that keeps them
		{"2: 1@0 -1@1 | 3 0 3 | - 5@1 7@9 | 4@2 - -", "1@7 1@4 1@5"}, {"2: 1@0 -1@1 | 0 3 -3 | 5@1 - - | - 4@2 7@-9", "1@7 1@5 1@4"},
		// by a delta; a literal more than once
		{"1: 2@0 | 1-1d 2-2d | - 7@2 | 7@1-1d -", "1@7 2@7"}, {"2: 1@0 1@1 | 1 1 2 | 4@1 4@1 - | - - 4@2-1d", "1@4 1@4 1@4"},
		// more than just these are in the way
		{"3: 1@0; 2: 1@1 | 0 0 0 0 | - - 7@1 8@1 | 4@0 5@0 - -", "1@7 1@5"}, {"1: 1@0 | 5 5 | - 7@8 | 4@5 6@2", "1@7 1@4"},
		// Where its bounds cross, and it is beyond both, it is its lower one.
		{"1: 1@0 | 4 4 | 3@4 7@5 | 4@4 8@3", "1@7 1@4"},
	} {
		step(t, c[0], simplex.Clash, c[1], c[0])
	}
}

// On a bench that is over it is ErrOver, whatever a step comes to, and nothing changes.
func TestP151StepOverAhead(t *testing.T) {
	for _, text := range []string{" | ", " | 3", "1: 2@0 | 0 0", "1: 2@0 | 0 0 | - 7@3 | - -", "1: | 0 0 | - 7@1 | - -", "2: 1@0 1@1 | 1 1 2 | 1@1 2@1 - | - - -3@1"} {
		b, x := overBench(2), read(t, text)
		if state, list, code := simplex.Step(b, &x); state != 0 || len(list) > 0 || code != api.ErrOver {
			t.Errorf("%s: %d, %q, %v", text, state, why(list), code)
		}
		is(t, text, x, text)
		if list, code := simplex.Check(b, &x); len(list) > 0 || code != api.ErrOver {
			t.Errorf("%s: %q, %v", text, why(list), code)
		}
		is(t, text, x, text)
	}
}

// What a step doesn't reckon may be as great as it is; how far it goes, what it is then, and the rows may not.
func TestP151StepOver(t *testing.T) {
	for _, c := range []struct {
		text string
		want int
	}{
		// Settled, and a clash: nothing is reckoned
		{"1: 4294967296@0 | 4294967296 18446744073709551616 | - 7@4294967297 | - -", simplex.Settled}, {"1: 4294967296@0 | 1 4294967296 | - 7@4294967297 | 8@1 -", simplex.Clash}, {"1: -1/4294967296@0 | 1 -1/4294967296 | 9@1 7@1/4294967296 | - -", simplex.Clash},
		// Moved, by numbers that are just less than too great
		{"1: 1@0 | 0 0 | - 7@4294967295 | - -", simplex.Moved}, {"1: 65537@0 | 0 0 | - 7@4294967295 | - -", simplex.Moved}, {"1: 1/65537@0 | 0 0 | - 7@65535 | - -", simplex.Moved}, {"1: 4294967295@0 | 0 0 | - 7@1 | - -", simplex.Moved}, {"1: 1@0 | 4294967294 4294967294 | - 7@4294967295 | - -", simplex.Moved},
		// what isn't reckoned: other rows, other bounds
		{"2: 1@0; 3: 4294967296@1 | 0 1 0 4294967296 | - 7@1/4294967296 7@1 8@1/4294967296 | 1@4294967296 - - -", simplex.Moved},
		// the way to the bound, how far the one that helps goes, what it is then
		{"1: 1@0 | 0 0 | - 7@4294967296 | - -", -1}, {"1: 1@0 | -1 -1 | - 7@4294967295 | - -", -1}, {"1: 1@0 | 0 0 | - 7@0+4294967296d | - -", -1}, {"1: 1/65537@0 | 0 0 | - 7@65536 | - -", -1}, {"1: 65536@0 | 0 0 | - 7@1/65536 | - -", -1},
		{"2: 1@0 1@1 | 4294967295 -1 4294967294 | - - 7@4294967295 | - - -", -1}, {"2: 1/2@0 1@1 | 4294967295 1 4294967297/2 | - - 7@2147483649 | - - -", -1},
		// another one that follows; the rows
		{"1: 1@0; 2: 65536@0 | 0 0 0 | - 7@65536 - | - - -", -1}, {"2: 1@0 1@1; 3: 2@0 | 2147483647 0 2147483647 4294967294 | - - 7@2147483648 - | - - - -", -1}, {"2: 1/65536@0 65536@1 | 0 0 0 | - - 7@1/65536 | - - -", -1}, {"2: 1@0 65536@1; 3: 65536@0 | 0 0 0 0 | - - 7@1 - | - - - -", -1},
	} {
		b, x := nat.New(1), read(t, c.text)
		state, list, code := simplex.Step(b, &x)
		y := read(t, c.text)
		wide, _, more := simplex.Step(nat.New(4), &y)
		over := c.want < 0
		if over && (code != api.ErrOver || state != 0 || len(list) > 0 || !b.Over() || wide != simplex.Moved || more != api.OK) {
			t.Errorf("%s: %d, %q, %v, over: %v; on four limbs %d, %v", c.text, state, why(list), code, b.Over(), wide, more)
		}
		if !over && (code != api.OK || state != c.want || b.Over() || show(x) != show(y)) {
			t.Errorf("%s: %d, not %d; %v, over: %v; %s", c.text, state, c.want, code, b.Over(), show(x))
		}
	}
}
