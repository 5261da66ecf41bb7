package nat_test

import (
	"slices"
	"testing"

	"steelyard/api"
	"steelyard/nat"
)

// spare is what stands behind the limbs that are handed in, in the same memory.
const spare = 4

// roomy gives x with room behind it, that nobody may touch, and all of that memory.
func roomy(x api.Nat) (api.Nat, api.Nat) {
	all := append(slices.Clone(x), make(api.Nat, spare)...)
	for i := range spare {
		all[len(x)+i] = 0xabcdef
	}
	return all[:len(x)], all
}

// spoil writes over all of the memory of limbs.
func spoil(x api.Nat) {
	x = x[:cap(x)]
	for i := range x {
		x[i] = 0xdead
	}
}

// memoryRows are numbers, and rows that aren't, for which a call might hand back what it was handed.
func memoryRows() []api.Nat {
	return []api.Nat{nil, {}, {0}, {1}, {6}, {6, 0, 0}, {0, 4}, {5, 5}, {1, 2, 3}, {0, 0, 8, 0}, {9, 9, 9, 9}, {2, 4, 6, 8, 10}}
}

func TestP14NewMemory(t *testing.T) {
	for _, op := range operations() {
		for _, first := range memoryRows() {
			for _, second := range memoryRows() {
				b := nat.New(20)
				x, allX := roomy(first)
				y, allY := roomy(second)
				keptX, keptY := slices.Clone(allX), slices.Clone(allY)
				list := op.do(b, x, y)
				if !slices.Equal(allX, keptX) || !slices.Equal(allY, keptY) {
					t.Errorf("%s changes %v or %v", op.name, first, second)
				}
				checkApart(t, op.name, list, allX, allY)
				again := op.do(b, first, second)
				spoil(again[0])
				if third := op.do(b, first, second); !slices.Equal(third[0], op.do(nat.New(20), first, second)[0]) {
					t.Errorf("%s keeps what it answered: %v", op.name, third)
				}
			}
		}
	}
}

// checkApart tells an error, if answers share memory with one another or with what was handed in.
func checkApart(t *testing.T, name string, list []api.Nat, handed ...api.Nat) {
	t.Helper()
	for i, x := range list {
		others := append(slices.Delete(slices.Clone(list), i, i+1), handed...)
		before := make([]api.Nat, len(others))
		for j, other := range others {
			before[j] = slices.Clone(other)
		}
		kept := slices.Clone(x)
		spoil(x)
		for j, other := range others {
			if !slices.Equal(other, before[j]) {
				t.Errorf("%s: answer %d shares memory: %v", name, i, other)
			}
		}
		copy(x, kept)
	}
}

func TestP14OfIsNew(t *testing.T) {
	x := nat.Of(1<<32 + 7)
	spoil(x)
	if y := nat.Of(1<<32 + 7); !slices.Equal(y, api.Nat{7, 1}) {
		t.Errorf("%v", y)
	}
	y := api.Nat{7, 1, 0}
	if nat.Right(y); nat.Cmp(y, api.Nat{7}) != 1 || nat.Text(y) != "4294967303" || !slices.Equal(y, api.Nat{7, 1, 0}) {
		t.Errorf("%v", y)
	}
}
