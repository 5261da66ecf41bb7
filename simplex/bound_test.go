package simplex_test

import (
	"math"
	"testing"

	"steelyard/api"
	"steelyard/nat"
	"steelyard/simplex"
)

// bound tells an error, if Bound of texts doesn't answer such reasons, or leaves another tableau.
func bound(t *testing.T, text string, v int, upper bool, e, reasons, want string) {
	t.Helper()
	b, x := nat.New(1), read(t, text)
	list, code := simplex.Bound(b, &x, v, upper, edge(t, e))
	if code != api.OK || b.Over() || why(list) != reasons {
		t.Errorf("%s, %d, upper: %v, %s: %v, over: %v, reasons %q, not %q", text, v, upper, e, code, b.Over(), why(list), reasons)
	}
	is(t, text+", "+e, x, want)
}

// An unknown that is basic of none goes to a bound that it is beyond, and only then.
func TestP151BoundUpdates(t *testing.T) {
	for _, c := range []struct {
		text  string
		v     int
		upper bool
		e     string
		want  string
	}{
		// it is within, at the bound, beyond
		{" | 3", 0, false, "7@2", " | 3 | 7@2 | -"}, {" | 3", 0, false, "7@3", " | 3 | 7@3 | -"}, {" | 3", 0, false, "7@4", " | 4 | 7@4 | -"},
		{" | 3", 0, true, "7@4", " | 3 | - | 7@4"}, {" | 3", 0, true, "7@3", " | 3 | - | 7@3"}, {" | 3", 0, true, "7@2", " | 2 | - | 7@2"},
		// by a delta
		{" | 3", 0, false, "7@3+1d", " | 3+1d | 7@3+1d | -"}, {" | 3", 0, false, "7@3-1d", " | 3 | 7@3-1d | -"}, {" | 3", 0, true, "-7@3-1d", " | 3-1d | - | -7@3-1d"}, {" | 3", 0, true, "-7@3+1d", " | 3 | - | -7@3+1d"},
		{" | 3+1/2d", 0, false, "7@3", " | 3+1/2d | 7@3 | -"}, {" | 3+1/2d", 0, true, "7@3", " | 3 | - | 7@3"}, {" | 3+1/2d", 0, true, "7@3+1/2d", " | 3+1/2d | - | 7@3+1/2d"},
		// The others follow.
		{"2: 1@0 2@1; 3: 1@0 -1@1; 4: 1@0 | 0 0 0 0 0", 1, false, "9@5", "2: 1@0 2@1; 3: 1@0 -1@1; 4: 1@0 | 0 5 10 -5 0 | - 9@5 - - - | - - - - -"},
		{"2: 1@0 2@1; 3: 1@0 -1@1; 4: 1@0 | 0 0 0 0 0", 0, true, "-9@-1/2", "2: 1@0 2@1; 3: 1@0 -1@1; 4: 1@0 | -1/2 0 -1/2 -1/2 -1/2 | - - - - - | -9@-1/2 - - - -"},
		// Bounds of the others don't hold them.
		{"1: 2@0 | 1 2 | - 3@1 | - 5@3", 0, false, "7@9", "1: 2@0 | 9 18 | 7@9 3@1 | - 5@3"},
		// what is basic doesn't go, wherever it is
		{"1: 2@0 | 1 2", 1, false, "7@9", "1: 2@0 | 1 2 | - 7@9 | - -"}, {"1: 2@0 | 1 2", 1, true, "7@1", "1: 2@0 | 1 2 | - - | - 7@1"}, {"0: 2@1 | 2 1", 0, true, "7@2-1d", "0: 2@1 | 2 1 | - - | 7@2-1d -"}, {"1: 2@0 | 1 2", 1, true, "7@5", "1: 2@0 | 1 2 | - - | - 7@5"},
		{"3: ; 2: 1@1 | 4 5 5 0", 3, false, "7@1", "3: ; 2: 1@1 | 4 5 5 0 | - - - 7@1 | - - - -"}, {"3: ; 2: 1@1 | 4 5 5 0", 2, true, "7@1", "3: ; 2: 1@1 | 4 5 5 0 | - - - - | - - 7@1 -"},
		// one that was beyond the other bound stays so, or goes to this one
		{" | 9 | - | 3@5", 0, false, "7@4", " | 9 | 7@4 | 3@5"}, {" | 9 | - | 3@5", 0, true, "7@4", " | 4 | - | 7@4"},
		// literals at the edges
		{" | 3", 0, true, "-9223372036854775808@2", " | 2 | - | -9223372036854775808@2"}, {" | 3", 0, true, "9223372036854775807@2", " | 2 | - | 9223372036854775807@2"},
	} {
		bound(t, c.text, c.v, c.upper, c.e, "", c.want)
	}
}

// A bound that is there and is as strict stays, with its literal; another one goes.
func TestP151BoundAsStrict(t *testing.T) {
	for _, c := range []struct {
		text  string
		v     int
		upper bool
		e     string
		want  string
	}{
		{" | 3 | 4@2 | -", 0, false, "7@2", " | 3 | 4@2 | -"}, {" | 3 | 4@2 | -", 0, false, "7@1", " | 3 | 4@2 | -"}, {" | 3 | 4@2 | -", 0, false, "7@5/2", " | 3 | 7@5/2 | -"},
		{" | 3 | - | 4@5", 0, true, "7@5", " | 3 | - | 4@5"}, {" | 3 | - | 4@5", 0, true, "7@6", " | 3 | - | 4@5"}, {" | 3 | - | 4@5", 0, true, "7@4", " | 3 | - | 7@4"},
		{" | 3 | 4@2+1d | -", 0, false, "7@2", " | 3 | 4@2+1d | -"}, {" | 3 | 4@2+1d | -", 0, false, "7@2+1d", " | 3 | 4@2+1d | -"}, {" | 3 | 4@2 | -", 0, false, "7@2+1d", " | 3 | 7@2+1d | -"},
		{" | 3 | - | 4@5-1d", 0, true, "7@5", " | 3 | - | 4@5-1d"}, {" | 3 | - | 4@5-1d", 0, true, "7@5-1d", " | 3 | - | 4@5-1d"}, {" | 3 | - | 4@5", 0, true, "7@5-1d", " | 3 | - | 7@5-1d"},
		// A stricter one takes it along.
		{" | 3 | 4@2 | -", 0, false, "7@9", " | 9 | 7@9 | -"}, {"1: 1@0 | 3 3 | - - | 4@5 -", 0, true, "-7@2", "1: 1@0 | 2 2 | - - | -7@2 -"},
		// basic ones
		{"1: 1@0 | 3 3 | - 4@5 | - -", 1, false, "7@4", "1: 1@0 | 3 3 | - 4@5 | - -"}, {"1: 1@0 | 3 3 | - 4@5 | - -", 1, false, "7@6", "1: 1@0 | 3 3 | - 7@6 | - -"},
		// Nothing happens, though it is beyond both of its own side, or the new one is across one of the other side.
		{" | 0 | 4@5 | -", 0, false, "7@3", " | 0 | 4@5 | -"}, {" | 0 | 4@5 | -", 0, false, "7@5", " | 0 | 4@5 | -"}, {" | 9 | - | 4@5", 0, true, "7@6", " | 9 | - | 4@5"},
		{" | 0 | 4@5 | 5@2", 0, false, "7@3", " | 0 | 4@5 | 5@2"}, {" | 0 | 4@5 | 5@2", 0, true, "7@2", " | 0 | 4@5 | 5@2"},
		// The same on the other side is another one.
		{" | 2 | 4@2 | -", 0, true, "4@2", " | 2 | 4@2 | 4@2"}, {" | 3 | 4@2 | -", 0, true, "7@2", " | 2 | 4@2 | 7@2"}, {" | 3 | 4@2 | -", 0, true, "7@9", " | 3 | 4@2 | 7@9"},
		// another unknown's
		{" | 3 3 | 4@2 - | - 5@4", 1, false, "7@2", " | 3 3 | 4@2 7@2 | - 5@4"}, {" | 3 3 | 4@2 - | - 5@4", 0, true, "7@4", " | 3 3 | 4@2 - | 7@4 5@4"},
	} {
		bound(t, c.text, c.v, c.upper, c.e, "", c.want)
	}
}

// A bound that would cross the other one isn't there; both are why.
func TestP151BoundCrosses(t *testing.T) {
	for _, c := range []struct {
		text    string
		v       int
		upper   bool
		e       string
		reasons string
	}{
		{" | 3 | - | 4@5", 0, false, "7@6", "1@7 1@4"}, {" | 3 | 4@2 | -", 0, true, "7@1", "1@7 1@4"}, {" | 3 | - | -4@5", 0, false, "-7@6", "1@-7 1@-4"}, {" | 3 | 4@2 | -", 0, true, "4@1", "1@4 1@4"},
		// by a delta
		{" | 3 | - | 4@5", 0, false, "7@5+1d", "1@7 1@4"}, {" | 3 | - | 4@5-1d", 0, false, "7@5", "1@7 1@4"}, {" | 3 | 4@2+1d | -", 0, true, "7@2", "1@7 1@4"}, {" | 3 | 4@2 | -", 0, true, "7@2-1d", "1@7 1@4"}, {" | 3 | - | 4@5-1d", 0, false, "7@5-1/2d", "1@7 1@4"},
		// there are both already; it is stricter than the one on its side
		{" | 3 | 3@2 | 4@5", 0, false, "7@6", "1@7 1@4"}, {" | 3 | 3@2 | 4@5", 0, true, "7@1", "1@7 1@3"}, {" | 3 | 3@6 | 4@5", 0, false, "7@7", "1@7 1@4"},
		// basic ones, and ones in rows
		{"1: 1@0 | 3 3 | - 4@2 | - -", 1, true, "7@1", "1@7 1@4"}, {"1: 1@0 | 9 9 | - - | - 4@5", 1, false, "7@6", "1@7 1@4"}, {"1: 1@0 | 3 3 | 4@2 - | - -", 0, true, "7@1", "1@7 1@4"},
	} {
		bound(t, c.text, c.v, c.upper, c.e, c.reasons, c.text)
	}
	// Where both meet, they don't cross.
	bound(t, " | 3 | - | 4@5", 0, false, "7@5", "", " | 5 | 7@5 | 4@5")
	bound(t, " | 3 | 4@2+1d | -", 0, true, "7@2+1d", "", " | 2+1d | 4@2+1d | 7@2+1d")
}

// wrong tells an error, if a call of Bound doesn't answer a code alone, or changes the tableau or the bench.
func wrong(t *testing.T, b *nat.Bench, v int, upper bool, e api.Edge, want api.Errno) {
	t.Helper()
	for _, text := range []string{"2: 1@0 2@1; 3: 1@0 -1@1 | 0 5 10 -5 | 4@0 - - - | - - 5@2 -", " | "} {
		x, over := read(t, text), b.Over()
		code := want
		if len(x.Values) == 0 {
			code = api.ErrRange
		}
		if list, got := simplex.Bound(b, &x, v, upper, e); got != code || len(list) > 0 || b.Over() != over || show(x) != show(read(t, text)) {
			t.Errorf("%d, %v: %v, not %v; over: %v; %s", v, e, got, code, b.Over(), show(x))
		}
	}
}

func TestP151BoundErrors(t *testing.T) {
	for _, b := range []*nat.Bench{nat.New(1), overBench(1)} {
		for _, upper := range []bool{false, true} {
			for _, at := range []string{"0", "3", "-3+1d", "18446744073709551616-1/18446744073709551616d"} {
				for _, v := range []int{-1, -2, math.MinInt, 4, 5, math.MaxInt} {
					wrong(t, b, v, upper, api.Edge{Lit: 7, At: value(t, at)}, api.ErrRange)
					// ErrRange is told ahead of ErrArg.
					wrong(t, b, v, upper, api.Edge{At: value(t, at)}, api.ErrRange)
				}
				for v := range 4 {
					// ErrArg is told ahead of ErrOver.
					wrong(t, b, v, upper, api.Edge{At: value(t, at)}, api.ErrArg)
				}
			}
		}
	}
}

// On a bench that is over it is ErrOver, whatever would happen.
func TestP151BoundOverAhead(t *testing.T) {
	for _, at := range []string{"-9", "0", "1", "2", "3", "9", "18446744073709551616"} {
		for v := range 4 {
			wrong(t, overBench(2), v, true, edge(t, "7@"+at), api.ErrOver)
			wrong(t, overBench(2), v, false, edge(t, "7@"+at), api.ErrOver)
		}
	}
}

// What isn't reckoned may be as great as it is; how much more an unknown and those that follow are, and what these are then, may not.
func TestP151BoundOver(t *testing.T) {
	for _, c := range []struct {
		text string
		v    int
		e    string
		want api.Errno
	}{
		// it stays where it is, and is basic, or within; a bound that is as strict; one that would cross
		{"1: 1@0 | 1 1", 1, "7@4294967296", api.OK}, {" | 4294967297", 0, "7@4294967296", api.OK}, {" | 4294967296", 0, "7@4294967296", api.OK}, {" | 0 | 4@8589934592 | -", 0, "7@4294967296", api.OK}, {" | 0 | - | 4@5/4294967296", 0, "7@4294967296", api.OK},
		{" | 1/4294967296", 0, "7@-1/4294967297", api.OK}, {" | 1", 0, "7@1/4294967296", api.OK},
		// It is so much more.
		{" | 0", 0, "7@4294967295", api.OK}, {" | 0", 0, "7@4294967296", api.ErrOver}, {" | 0", 0, "7@1+4294967295d", api.OK}, {" | 0", 0, "7@1+4294967296d", api.ErrOver}, {" | -1", 0, "7@4294967295", api.ErrOver}, {" | 4294967295", 0, "7@4294967296", api.OK},
		{" | -1/65537", 0, "7@1/65539", api.ErrOver}, {" | -1/65537", 0, "7@1/65537", api.OK},
		// those that follow
		{"1: 65536@0 | 0 0", 0, "7@65535", api.OK}, {"1: 65536@0 | 0 0", 0, "7@65536", api.ErrOver}, {"2: 1@0 1@1 | 0 4294967295 4294967295", 0, "7@1", api.ErrOver}, {"2: 1@0 1@1 | 0 4294967294 4294967294", 0, "7@1", api.OK},
		{"2: 4294967296@1 | 0 1 4294967296", 0, "7@1", api.OK},
	} {
		b, x := nat.New(1), read(t, c.text)
		list, code := simplex.Bound(b, &x, c.v, false, edge(t, c.e))
		if code != c.want || b.Over() != (code == api.ErrOver) || code != api.OK && len(list) > 0 {
			t.Errorf("%s, %s: %v, not %v; over: %v, reasons %q", c.text, c.e, code, c.want, b.Over(), why(list))
		}
		y := read(t, c.text)
		if other, more := simplex.Bound(nat.New(4), &y, c.v, false, edge(t, c.e)); more != api.OK || code == api.OK && (show(x) != show(y) || why(list) != why(other)) {
			t.Errorf("%s, %s on four limbs: %v, %s", c.text, c.e, more, show(y))
		}
	}
}
