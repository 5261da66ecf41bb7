package simplex_test

import (
	"math/rand/v2"
	"strings"
	"testing"

	"steelyard/api"
	"steelyard/delta"
	"steelyard/nat"
	"steelyard/simplex"
	"steelyard/tableau"
)

// tidyTableau gives a right tableau whose bounds don't cross; what is basic of none is within them.
func tidyTableau(r *rand.Rand, most, limbs int) api.Tableau {
	x := someTableau(r, most, limbs)
	for v := range x.Values {
		if low, high := x.Lower[v], x.Upper[v]; low.Lit != 0 && high.Lit != 0 && pairOf(low.At).against(pairOf(high.At)) > 0 {
			x.Lower[v].At, x.Upper[v].At = high.At, low.At
		}
		if low := x.Lower[v]; low.Lit != 0 && pairOf(x.Values[v]).against(pairOf(low.At)) < 0 {
			x.Values[v] = copyOfDelta(low.At)
		}
		if high := x.Upper[v]; high.Lit != 0 && pairOf(x.Values[v]).against(pairOf(high.At)) > 0 {
			x.Values[v] = copyOfDelta(high.At)
		}
	}
	settle(x)
	return x
}

// anyTableau gives a tidy one, or one in which bounds may cross, and values be anywhere.
func anyTableau(r *rand.Rand, most, limbs int) api.Tableau {
	if r.IntN(2) == 0 {
		return someTableau(r, most, limbs)
	}
	return tidyTableau(r, most, limbs)
}

// judge tells an error, if what was called isn't what a model tells, or is over without need, or isn't though a number is too great; true, if it is over.
func judge(t *testing.T, what string, b *nat.Bench, x api.Tableau, code api.Errno, m *model) bool {
	t.Helper()
	switch {
	case code == api.OK && (b.Over() || m.end > b.Limbs() || !tableau.Right(x) || show(x) != m.text()):
		t.Fatalf("%s on %d limbs: %s, not %s", what, b.Limbs(), show(x), m.text())
	case code != api.OK && (code != api.ErrOver || !b.Over() || m.way <= b.Limbs()):
		t.Fatalf("%s on %d limbs: %v; %d limbs are needed at most", what, b.Limbs(), code, m.way)
	}
	return code != api.OK
}

// someBench gives a bench that often becomes over.
func someBench(r *rand.Rand) *nat.Bench { return nat.New([]int{1, 2, 3, 6, 200}[r.IntN(5)]) }

// P15.1 and P2: a bound is what the document's words tell, each time.
func TestP151BoundByChance(t *testing.T) {
	r := rand.New(rand.NewPCG(15, 1))
	counts := map[string]int{}
	for range 4000 {
		x := anyTableau(r, 8, 3)
		for range 6 {
			b, m, before, values := someBench(r), modelOf(x), show(x), texts(x.Values, " ", delta.Text)
			again := copyOf(x)
			v, upper, e := r.IntN(len(x.Values)), r.IntN(2) == 0, api.Edge{Lit: 1 + r.IntN(50) - 60*r.IntN(2), At: someValue(r, 3)}
			if e.Lit == 0 {
				continue
			}
			list, code := simplex.Bound(b, &x, v, upper, e)
			other, more := simplex.Bound(nat.New(b.Limbs()), &again, v, upper, e)
			if code != more || why(list) != why(other) || code == api.OK && !tableau.Same(x, again) {
				t.Fatalf("Bound of %s: %v, then %v", before, code, more)
			}
			want := strings.Join(m.bound(v, upper, e.Lit, pairOf(e.At)), " ")
			if judge(t, "Bound of "+before, b, x, code, m) {
				if len(list) > 0 {
					t.Fatalf("%s beside an error", why(list))
				}
				counts["over"]++
				break
			}
			if why(list) != want {
				t.Fatalf("Bound %d, %v, %s of %s: %q, not %q", v, upper, edgeText(e), before, why(list), want)
			}
			switch {
			case len(list) > 0:
				counts["crossed"]++
			case show(x) == before:
				counts["nothing"]++
			case texts(x.Values, " ", delta.Text) == values:
				counts["it stays"]++
			default:
				counts["it goes"]++
			}
		}
	}
	if counts["over"] < 300 || counts["crossed"] < 1000 || counts["nothing"] < 1000 || counts["it stays"] < 1000 || counts["it goes"] < 1000 {
		t.Errorf("%v", counts)
	}
}

// P15.1 and P2: a step is what the document's words tell, each time.
func TestP151StepByChance(t *testing.T) {
	r := rand.New(rand.NewPCG(15, 2))
	counts, over := [3]int{}, 0
	for range 8000 {
		x := anyTableau(r, 9, 1+2*r.IntN(2))
		b := someBench(r)
		for {
			m, before, again := modelOf(x), show(x), copyOf(x)
			state, list, code := simplex.Step(b, &x)
			same, other, more := simplex.Step(nat.New(b.Limbs()), &again)
			if state != same || code != more || why(list) != why(other) || code == api.OK && !tableau.Same(x, again) {
				t.Fatalf("Step of %s: %d, %v, then %d, %v", before, state, code, same, more)
			}
			want, reasons := m.step()
			if judge(t, "Step of "+before, b, x, code, m) {
				if over++; state != 0 || len(list) > 0 {
					t.Fatalf("%d, %s beside an error", state, why(list))
				}
				break
			}
			if state != want || why(list) != strings.Join(reasons, " ") {
				t.Fatalf("Step of %s: %d, %q, not %d, %q", before, state, why(list), want, reasons)
			}
			if counts[state]++; state != simplex.Moved {
				break
			}
		}
	}
	if over < 500 || counts[simplex.Settled] < 2000 || counts[simplex.Moved] < 3000 || counts[simplex.Clash] < 1000 {
		t.Errorf("%v, %d over", counts, over)
	}
}

// P15.1 and P15.2: Check is Steps till one isn't Moved; that comes to an end on any right tableau, which stays right, with its bounds.
func TestP151CheckByChance(t *testing.T) {
	r := rand.New(rand.NewPCG(15, 3))
	counts, most := [3]int{}, 0
	for range 6000 {
		x := anyTableau(r, 12, 1)
		before, bounds := show(x), boundsText(x)
		y, b := copyOf(x), nat.New(1000)
		list, code := simplex.Check(b, &x)
		state, other, more := simplex.Moved, []api.Reason(nil), api.OK
		steps := 0
		for ; state == simplex.Moved; steps++ {
			if state, other, more = simplex.Step(b, &y); more != api.OK || !tableau.Right(y) || boundsText(y) != bounds || steps > 10_000 {
				t.Fatalf("step %d of %s: %v, %s", steps, before, more, show(y))
			}
		}
		if code != api.OK || why(list) != why(other) || !tableau.Same(x, y) || (len(list) > 0) != (state == simplex.Clash) {
			t.Fatalf("Check of %s: %v, %q and %s, not %q and %s", before, code, why(list), show(x), why(other), show(y))
		}
		counts[state]++
		most = max(most, steps)
	}
	if counts[simplex.Settled] < 1500 || counts[simplex.Clash] < 1500 || most < 8 {
		t.Errorf("%v, at most %d steps", counts, most)
	}
}

// boundsText gives the text of a tableau's bounds.
func boundsText(x api.Tableau) string {
	return texts(x.Lower, " ", edgeText) + " | " + texts(x.Upper, " ", edgeText)
}
