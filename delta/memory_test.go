package delta_test

import (
	"slices"
	"testing"

	"steelyard/api"
	"steelyard/delta"
	"steelyard/nat"
	"steelyard/ratio"
)

// lists gives all lists of a number.
func lists(x api.Delta) []api.Nat {
	return []api.Nat{x.A.Num.Mag, x.A.Den, x.B.Num.Mag, x.B.Den}
}

// apart tells an error, if lists of an answer share memory with one another, or with what was handed in.
func apart(t *testing.T, name string, answer, handed []api.Nat) {
	t.Helper()
	all := slices.Concat(answer, handed)
	kept := make([]api.Nat, len(all))
	for i, x := range all {
		kept[i] = slices.Clone(x)
	}
	for i, x := range answer {
		x = x[:cap(x)]
		before := slices.Clone(x)
		for j := range x {
			x[j] = 0xdead
		}
		for j, other := range all {
			if j != i && !slices.Equal(other, kept[j]) {
				t.Errorf("%s: list %d shares memory with list %d", name, i, j)
			}
		}
		copy(x, before)
	}
}

// Rule 4: what is handed in isn't changed, and what is answered is new memory.
func TestNewMemory(t *testing.T) {
	numbers := append(samples(12), read(t, "2/3 -5/7"), read(t, "3/4 -8/7"), read(t, "18446744073709551617/2 1/18446744073709551617"))
	for _, first := range numbers {
		for _, second := range numbers {
			b := nat.New(100)
			var x, y api.Delta
			var memory [4][]api.Nat
			x.A, memory[0] = cloned(first.A)
			x.B, memory[1] = cloned(first.B)
			y.A, memory[2] = cloned(second.A)
			y.B, memory[3] = cloned(second.B)
			handed := slices.Concat(memory[:]...)
			kept := make([]api.Nat, len(handed))
			for i, list := range handed {
				kept[i] = slices.Clone(list)
			}
			apart(t, "Of", lists(delta.Of(x.A)), handed)
			apart(t, "Add", lists(delta.Add(b, x, y)), handed)
			apart(t, "Sub", lists(delta.Sub(b, x, y)), handed)
			apart(t, "Scale", lists(delta.Scale(b, x.A, y)), handed)
			apart(t, "At", lists(api.Delta{A: delta.At(b, x, y.A)}), handed)
			apart(t, "Small", lists(api.Delta{A: delta.Small(b, [][2]api.Delta{{x, y}, {y, x}})}), handed)
			delta.Cmp(x, y)
			delta.Text(x)
			for i, list := range handed {
				if !slices.Equal(list, kept[i]) {
					t.Errorf("%v or %v is changed", first, second)
				}
			}
		}
	}
}

// What Of, Scale by 1, and sums with 0 answer is new memory, though it is what was handed in.
func TestNewMemoryOfTheSame(t *testing.T) {
	b := nat.New(9)
	x := read(t, "22/7 -355/113")
	handed := lists(x)
	apart(t, "Of", lists(delta.Of(x.A)), handed)
	apart(t, "Add", lists(delta.Add(b, x, api.Delta{})), handed)
	apart(t, "Add", lists(delta.Add(b, api.Delta{}, x)), handed)
	apart(t, "Sub", lists(delta.Sub(b, x, api.Delta{})), handed)
	apart(t, "Scale", lists(delta.Scale(b, ratio.Of(1), x)), handed)
	apart(t, "At", lists(api.Delta{A: delta.At(b, x, api.Ratio{})}), handed)
	apart(t, "Small", lists(api.Delta{A: delta.Small(b, nil)}), handed)
}

// A list of pairs stays as it is.
func TestPairsStay(t *testing.T) {
	pairs := readPairs(t, [2]string{"0 5", "1 0"}, [2]string{"3 0", "2 0"}, [2]string{"0 2", "1 0"})
	delta.Small(nat.New(1), pairs)
	for i, want := range [][2]string{{"0+5d", "1"}, {"3", "2"}, {"0+2d", "1"}} {
		if delta.Text(pairs[i][0]) != want[0] || delta.Text(pairs[i][1]) != want[1] {
			t.Errorf("%d: %v", i, pairs[i])
		}
	}
}
