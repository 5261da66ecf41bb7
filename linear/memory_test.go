package linear_test

import (
	"slices"
	"testing"

	"steelyard/api"
	"steelyard/linear"
	"steelyard/nat"
	"steelyard/ratio"
)

// roomy gives limbs in memory of their own, with room behind them that nobody may touch.
func roomy(x api.Nat) api.Nat {
	return append(slices.Clone(x), 0xabcdef, 0xabcdef)[:len(x)]
}

// roomyRatio gives a ratio whose lists have such room.
func roomyRatio(x api.Ratio) api.Ratio {
	x.Num.Mag, x.Den = roomy(x.Num.Mag), roomy(x.Den)
	return x
}

// roomySum gives a sum whose lists have such room.
func roomySum(p api.Poly) api.Poly {
	p.Const = roomyRatio(p.Const)
	list := make([]api.Mono, len(p.Monos), len(p.Monos)+2)
	for i, m := range p.Monos {
		list[i] = api.Mono{Var: m.Var, Coef: roomyRatio(m.Coef)}
	}
	list[:cap(list)][len(list)] = api.Mono{Var: -77}
	p.Monos = list
	return p
}

// limbs gives all lists of limbs of sums and of ratios, with the room behind them.
func limbs(ratios []api.Ratio, sums ...api.Poly) []api.Nat {
	for _, p := range sums {
		ratios = append(ratios, p.Const)
		for _, m := range p.Monos {
			ratios = append(ratios, m.Coef)
		}
	}
	var list []api.Nat
	for _, x := range ratios {
		list = append(list, x.Num.Mag[:cap(x.Num.Mag)], x.Den[:cap(x.Den)])
	}
	return list
}

// apart tells an error, if lists of an answer share memory with one another, or with what was handed in.
func apart(t *testing.T, name string, answer, handed []api.Nat) {
	t.Helper()
	all := slices.Concat(answer, handed)
	kept := make([]api.Nat, len(all))
	for i, x := range all {
		kept[i] = slices.Clone(x)
	}
	for i, x := range answer {
		for j := range x {
			x[j] ^= 0xdead
		}
		for j, other := range all {
			if j != i && !slices.Equal(other, kept[j]) {
				t.Errorf("%s: list %d shares memory with list %d", name, i, j)
			}
		}
		copy(x, kept[i])
	}
}

// spoil writes over the unknowns of an answer, with the room behind them.
func spoil(p api.Poly) {
	list := p.Monos[:cap(p.Monos)]
	for i := range list {
		list[i].Var = -99
	}
}

// handed is what is handed in to the calls: two sums, a number, and unknowns.
type handed struct {
	p, q  api.Poly
	k     api.Ratio
	reals []api.Ratio
}

// memory gives all limbs of what is handed in.
func (h handed) memory() []api.Nat { return limbs(append([]api.Ratio{h.k}, h.reals...), h.p, h.q) }

// text gives what is handed in as a text, with the room behind the unknowns.
func (h handed) text() string {
	out := text(h.p) + ", " + ratio.Text(h.k) + ", " + text(h.q)
	for _, p := range []api.Poly{h.p, h.q} {
		for _, m := range p.Monos[len(p.Monos):cap(p.Monos)] {
			out += ", " + text(linear.Of(m.Var))
		}
	}
	for _, x := range h.reals {
		out += ", " + ratio.Text(x)
	}
	return out
}

// callAll calls all, and tells an error, if an answer isn't new memory.
func (h handed) callAll(t *testing.T) {
	t.Helper()
	b := nat.New(1000)
	n, k := linear.Normal(b, h.p)
	for _, c := range []struct {
		name string
		sum  api.Poly
		also []api.Ratio
	}{
		{"Add", linear.Add(b, h.p, h.k, h.q), nil},
		{"Add of one and the same", linear.Add(b, h.p, ratio.Of(1), h.p), nil},
		{"Add of nothing", linear.Add(b, h.p, ratio.Of(1), api.Poly{}), nil},
		{"Add to nothing", linear.Add(b, api.Poly{}, ratio.Of(1), h.p), nil},
		{"Scale", linear.Scale(b, h.k, h.p), nil},
		{"Scale by 1", linear.Scale(b, ratio.Of(1), h.p), nil},
		{"Normal", n, []api.Ratio{k}},
	} {
		apart(t, c.name, limbs(c.also, c.sum), h.memory())
		spoil(c.sum)
	}
	for _, p := range []api.Poly{h.p, {Const: h.k}, linear.Of(0)} {
		x, _ := linear.Value(b, p, h.reals)
		apart(t, "Value", limbs([]api.Ratio{x}), h.memory())
	}
	linear.Right(h.p)
	linear.Same(h.p, h.q)
}

// Rule 4: what is handed in isn't changed, and what is answered is new memory.
func TestNewMemory(t *testing.T) {
	sums := append(samples(12), read(t, "1 1@0 1@1"), read(t, "18446744073709551617 1/18446744073709551617@0 -5@1 4294967297/3@2"))
	for _, p := range sums {
		for i, q := range sums {
			h := handed{p: roomySum(p), q: roomySum(q), k: roomyRatio(ratio.Of(int64(i%5) - 2))}
			for _, x := range numbers(t, "3 -1/2 18446744073709551617 0 1 1 1 1/18446744073709551617") {
				h.reals = append(h.reals, roomyRatio(x))
			}
			kept, before := h.text(), h.memory()
			for j, x := range before {
				before[j] = slices.Clone(x)
			}
			h.callAll(t)
			if h.text() != kept || !slices.EqualFunc(h.memory(), before, slices.Equal) {
				t.Errorf("%s or %s is changed", text(p), text(q))
			}
		}
	}
}

// What Of answers is new memory each time.
func TestNewMemoryOf(t *testing.T) {
	p := linear.Of(4)
	p.Monos[0].Coef.Num.Mag[0] = 9
	spoil(p)
	same(t, "Of", linear.Of(4), "0 1@4")
}
