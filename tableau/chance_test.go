package tableau_test

import (
	"maps"
	"math/big"
	"math/rand/v2"
	"slices"
	"strconv"
	"testing"

	"steelyard/api"
	"steelyard/delta"
	"steelyard/nat"
	"steelyard/tableau"
)

// limbsOf gives how many limbs a rational number has, the greater one of both parts.
func limbsOf(x *big.Rat) int {
	limbs := (x.Num().BitLen() + 31) / 32
	if !x.IsInt() {
		limbs = max(limbs, (x.Denom().BitLen()+31)/32)
	}
	return limbs
}

// model is a tableau as equations: of each row what comes to 0, the basic unknown -1 times. It counts limbs: of what is reckoned on the way, and of what is there in the end instead of something else.
type model struct {
	basic     []int
	equations []map[int]*big.Rat
	values    [][2]*big.Rat
	way, end  int
}

// modelOf gives the model of a tableau.
func modelOf(x api.Tableau) *model {
	m := &model{basic: slices.Clone(x.Basic)}
	for i, p := range x.Rows {
		e := map[int]*big.Rat{x.Basic[i]: big.NewRat(-1, 1)}
		for _, mono := range p.Monos {
			e[mono.Var] = rat(mono.Coef)
		}
		m.equations = append(m.equations, e)
	}
	for _, y := range x.Values {
		m.values = append(m.values, [2]*big.Rat{rat(y.A), rat(y.B)})
	}
	return m
}

// onWay counts a number that is reckoned.
func (m *model) onWay(x *big.Rat) *big.Rat {
	m.way = max(m.way, limbsOf(x))
	return x
}

// update lets an unknown be a number.
func (m *model) update(v int, x api.Delta) {
	for part, y := range [2]*big.Rat{rat(x.A), rat(x.B)} {
		more := m.onWay(new(big.Rat).Sub(y, m.values[v][part]))
		m.values[v][part] = y
		for i, e := range m.equations {
			if k, ok := e[v]; ok {
				old := m.values[m.basic[i]][part]
				z := m.onWay(new(big.Rat).Add(old, m.onWay(new(big.Rat).Mul(k, more))))
				m.values[m.basic[i]][part], m.end = z, max(m.end, limbsOf(z))
			}
		}
	}
}

// pivot lets an unknown be basic of a row: it is -1 times in that equation then, and gone from all others.
func (m *model) pivot(row, v int) {
	times := new(big.Rat).Neg(new(big.Rat).Inv(m.equations[row][v]))
	for w, k := range m.equations[row] {
		m.equations[row][w] = m.onWay(new(big.Rat).Mul(k, times))
	}
	m.basic[row] = v
	for i, e := range m.equations {
		k, ok := e[v]
		if !ok || i == row {
			continue
		}
		for w, l := range m.equations[row] {
			old, ok := e[w]
			if !ok {
				old = new(big.Rat)
			}
			e[w] = m.onWay(new(big.Rat).Add(m.onWay(old), m.onWay(new(big.Rat).Mul(k, l))))
		}
		for w, l := range e {
			// Those that aren't in the other row are told anew, too.
			m.end = max(m.end, limbsOf(m.onWay(l)))
			if l.Sign() == 0 {
				delete(e, w)
			}
		}
	}
	for _, l := range m.equations[row] {
		m.end = max(m.end, limbsOf(l))
	}
}

// text gives the text of the tableau that a model is, without bounds.
func (m *model) text() string {
	out := ""
	for i, e := range m.equations {
		if i > 0 {
			out += "; "
		}
		out += strconv.Itoa(m.basic[i]) + ":"
		for _, v := range slices.Sorted(maps.Keys(e)) {
			if v != m.basic[i] {
				out += " " + e[v].RatString() + "@" + strconv.Itoa(v)
			}
		}
	}
	out += " |"
	for _, x := range m.values {
		out += " " + delta.Text(api.Delta{A: fromRat(x[0]), B: fromRat(x[1])})
	}
	return out
}

// bounds gives the text of a tableau's bounds.
func bounds(x api.Tableau) string {
	return texts(x.Lower, " ", edgeText) + " | " + texts(x.Upper, " ", edgeText)
}

// judge tells an error, if what was called isn't what a model tells, or is over without need, or isn't though a number is too great; true, if it is over.
func judge(t *testing.T, what string, b *nat.Bench, x api.Tableau, code api.Errno, m *model, old string) bool {
	t.Helper()
	switch {
	case code == api.OK && (b.Over() || m.end > b.Limbs() || !tableau.Right(x) || show(x) != m.text()+" | "+old):
		t.Fatalf("%s on %d limbs: %s, not %s", what, b.Limbs(), show(x), m.text())
	case code != api.OK && (code != api.ErrOver || !b.Over() || m.way <= b.Limbs()):
		t.Fatalf("%s on %d limbs: %v; %d limbs are needed at most", what, b.Limbs(), code, m.way)
	}
	return code != api.OK
}

// P14.2 and P2: what changes is what the document's words tell, each time.
func TestP142ByChance(t *testing.T) {
	r := rand.New(rand.NewPCG(14, 3))
	counts := map[string]int{}
	for range 6000 {
		x := someTableau(r, 8, 3)
		old := bounds(x)
		for range 4 {
			b, m, before := nat.New([]int{1, 2, 3, 6, 200}[r.IntN(5)]), modelOf(x), show(x)
			again, c := copyOf(x), nat.New(b.Limbs())
			what, code, other := "Update", api.OK, api.OK
			if row, v, ok := turns(r, x); ok && r.IntN(2) == 0 {
				what = "Pivot"
				code, other = tableau.Pivot(b, &x, row, v), tableau.Pivot(c, &again, row, v)
				m.pivot(row, v)
			} else if v = r.IntN(len(x.Values)); tableau.Row(x, v) >= 0 {
				continue
			} else {
				y := someValue(r, 3)
				code, other = tableau.Update(b, &x, v, y), tableau.Update(c, &again, v, y)
				m.update(v, y)
			}
			if code != other || code == api.OK && !tableau.Same(x, again) {
				t.Fatalf("%s of %s: %v, then %v", what, before, code, other)
			}
			if judge(t, what+" of "+before, b, x, code, m, old) {
				counts[what+" over"]++
				break
			}
			counts[what]++
		}
	}
	if counts["Update"] < 2000 || counts["Update over"] < 500 || counts["Pivot"] < 1500 || counts["Pivot over"] < 500 {
		t.Errorf("%v", counts)
	}
}

// P14.3: two unknowns that change places, and back again, leave the tableau as it was; others may be Updated or told bounds between.
func TestP143ByChance(t *testing.T) {
	r := rand.New(rand.NewPCG(14, 4))
	b := nat.New(1000)
	turned := 0
	for range 3000 {
		x := someTableau(r, 12, 4)
		row, v, ok := turns(r, x)
		if !ok {
			continue
		}
		before, basic := copyOf(x), x.Basic[row]
		if code := tableau.Pivot(b, &x, row, v); code != api.OK || x.Basic[row] != v || tableau.Same(x, before) {
			t.Fatalf("Pivot of %s: %v", show(before), code)
		}
		if code := tableau.Pivot(b, &x, row, basic); code != api.OK || !tableau.Same(x, before) || show(x) != show(before) {
			t.Fatalf("back: %v, %s, not %s", code, show(x), show(before))
		}
		turned++
	}
	if turned < 1500 {
		t.Errorf("%d turned", turned)
	}
}

// P14.3: many pivots, undone the last one first.
func TestP143ManyPivots(t *testing.T) {
	r := rand.New(rand.NewPCG(14, 5))
	b := nat.New(1000)
	for range 60 {
		x := someTableau(r, 14, 1)
		var turned [][2]int
		var states []api.Tableau
		for range 20 {
			row, v, ok := turns(r, x)
			if !ok {
				break
			}
			turned, states = append(turned, [2]int{row, x.Basic[row]}), append(states, copyOf(x))
			if code := tableau.Pivot(b, &x, row, v); code != api.OK || !tableau.Right(x) {
				t.Fatalf("%v, %s", code, show(x))
			}
		}
		for i, turn := range slices.Backward(turned) {
			if code := tableau.Pivot(b, &x, turn[0], turn[1]); code != api.OK || !tableau.Same(x, states[i]) {
				t.Fatalf("back: %v, %s, not %s", code, show(x), show(states[i]))
			}
		}
	}
}

func TestP143(t *testing.T) {
	x := tableau.New(problem(t, 3, "1@0 1@1; 2@0 2@1 -1/3@2; 1@1 1@2"))
	before := copyOf(x)
	for row := range 3 {
		for _, v := range []int{0, 1, 2} {
			if tableau.Pivot(nat.New(1), &x, row, v) != api.OK {
				continue
			}
			if tableau.Same(x, before) || tableau.Pivot(nat.New(1), &x, row, 3+row) != api.OK || !tableau.Same(x, before) {
				t.Errorf("row %d and %d: %s", row, v, show(x))
			}
		}
	}
	is(t, "in the end", x, "3: 1@0 1@1; 4: 2@0 2@1 -1/3@2; 5: 1@1 1@2 | 0 0 0 0 0 0")
}
