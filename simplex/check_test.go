package simplex_test

import (
	"testing"

	"steelyard/api"
	"steelyard/delta"
	"steelyard/nat"
	"steelyard/ratio"
	"steelyard/simplex"
	"steelyard/tableau"
)

// P15.1: Steps are taken, until one isn't Moved.
func TestP151Check(t *testing.T) {
	for _, c := range [][3]string{
		{" | ", "", " | "}, {" | 3 | 1@4 | -", "", " | 3 | 1@4 | -"}, {"1: 2@0 | 1 2 | - 2@2 | - 4@2", "", "1: 2@0 | 1 2 | - 2@2 | - 4@2"}, {"1: | 0 0 | - 7@1 | - -", "1@7", "1: | 0 0 | - 7@1 | - -"},
		// one step, and more
		{"1: 2@0 | 0 0 | - 7@3 | - -", "", "0: 1/2@1 | 3/2 3 | - 7@3 | - -"}, {"2: 1@0; 3: 1@1 | 0 0 0 0 | - - 7@1 8@1 | - - - -", "", "0: 1@2; 1: 1@3 | 1 1 1 1 | - - 7@1 8@1 | - - - -"},
		{"2: 1@0 1@1; 3: 1@0 -1@1 | 0 0 0 0 | - - 7@3 - | - - - 8@1-1d", "", "0: 1/2@2 1/2@3; 1: 1/2@2 -1/2@3 | 2-1/2d 1+1/2d 3 1-1d | - - 7@3 - | - - - 8@1-1d"},
		{"2: 1@0 1@1; 3: 1@0 -1@1 | 0 0 0 0 | 5@0 - 7@3 - | 6@1 - - 8@-2", "", "1: 1/2@2 -1/2@3; 0: 1/2@2 1/2@3 | 1/2 5/2 3 -2 | 5@0 - 7@3 - | 6@1 - - 8@-2"},
		// a clash behind a step
		{"2: 1@0 1@1; 3: 1@0 -1@1 | 0 0 0 0 | - - 7@3 8@3 | 5@1 - - -", "1@8 2@5 1@7", "1: -1@0 1@2; 3: 2@0 -1@2 | 1 2 3 -1 | - - 7@3 8@3 | 5@1 - - -"},
	} {
		b, x := nat.New(1), read(t, c[0])
		if list, code := simplex.Check(b, &x); code != api.OK || b.Over() || why(list) != c[1] {
			t.Errorf("%s: %v, over: %v, reasons %q, not %q", c[0], code, b.Over(), why(list), c[1])
		}
		is(t, c[0], x, c[2])
	}
}

// A bench that becomes over by a later step is over; what is reckoned by none doesn't matter.
func TestP151CheckOver(t *testing.T) {
	for text, want := range map[string]api.Errno{
		"2: 1@0; 3: 1@1 | 0 0 0 0 | - - 7@1 8@4294967295 | - - - -": api.OK, "2: 1@0; 3: 1@1 | 0 0 0 0 | - - 7@1 8@4294967296 | - - - -": api.ErrOver, "2: 1@0; 3: 1@1 | 0 0 0 0 | - - 7@4294967296 8@1 | - - - -": api.ErrOver,
		"2: 1@0; 3: 1@1 | 0 0 0 0 | - - 7@1 8@-4294967296 | - - - 9@18446744073709551616": api.OK, "2: 1@0; 3: 65536@1 | 0 0 0 0 | - - 7@1 8@1/65536 | - - - -": api.ErrOver,
		// a clash ahead of what would be too great
		"2: 1@0; 3: 1@1 | 0 0 0 0 | - - 7@1 8@4294967296 | 9@0 - - -": api.OK, "2: 1@0; 3: 1@1 | 0 0 0 0 | - - 7@1 8@4294967296 | - 9@0 - -": api.OK,
	} {
		b, x := nat.New(1), read(t, text)
		if list, code := simplex.Check(b, &x); code != want || b.Over() != (want != api.OK) || want != api.OK && len(list) > 0 {
			t.Errorf("%s: %v, not %v; over: %v, %q", text, code, want, b.Over(), why(list))
		}
		y := read(t, text)
		if _, code := simplex.Check(nat.New(4), &y); code != api.OK {
			t.Errorf("%s on four limbs: %v", text, code)
		}
	}
}

// chain gives a tableau in which each number but the first one is to be at least 1 more than the one ahead of it, which is at least 0; the last one is to be at most a bound.
func chain(t *testing.T, b *nat.Bench, numbers int, most api.Delta) api.Tableau {
	t.Helper()
	p := api.Problem{Reals: numbers}
	for v := range numbers - 1 {
		p.Rows = append(p.Rows, api.Poly{Monos: []api.Mono{{Var: v, Coef: ratio.Of(-1)}, {Var: v + 1, Coef: ratio.Of(1)}}})
	}
	x := tableau.New(p)
	for v := numbers; v < 2*numbers-1; v++ {
		if list, code := simplex.Bound(b, &x, v, false, api.Edge{Lit: 10 + v, At: delta.Of(ratio.Of(1))}); len(list) > 0 || code != api.OK {
			t.Fatal(code)
		}
	}
	for _, upper := range []bool{false, true} {
		v, e := 0, api.Edge{Lit: 1}
		if upper {
			v, e = numbers-1, api.Edge{Lit: 2, At: most}
		}
		if list, code := simplex.Bound(b, &x, v, upper, e); len(list) > 0 || code != api.OK {
			t.Fatal(code)
		}
	}
	return x
}

// P15.2 and P15.3: steps come to an end in little time, however many there are.
func TestP152Chain(t *testing.T) {
	for _, numbers := range []int{2, 3, 10, 80} {
		b := nat.New(2)
		last := int64(numbers - 1)
		x := chain(t, b, numbers, delta.Of(ratio.Of(last)))
		bounds := boundsText(x)
		if list, code := simplex.Check(b, &x); len(list) > 0 || code != api.OK || !tableau.Right(x) || boundsText(x) != bounds {
			t.Errorf("%d: %q, %v", numbers, why(list), code)
		}
		for v := range numbers {
			if delta.Cmp(x.Values[v], delta.Of(ratio.Of(int64(v)))) != 0 {
				t.Errorf("%d of %d is %s", v, numbers, delta.Text(x.Values[v]))
			}
		}
		x = chain(t, b, numbers, api.Delta{A: ratio.Of(last), B: ratio.Of(-1)})
		list, code := simplex.Check(b, &x)
		if len(list) != numbers+1 || code != api.OK || !tableau.Right(x) {
			t.Errorf("%d: %q, %v", numbers, why(list), code)
		}
		seen := map[int]int{}
		for _, r := range list {
			if seen[r.Lit]++; ratio.Text(r.Coef) != "1" || seen[r.Lit] > 1 {
				t.Errorf("%d: %q", numbers, why(list))
			}
		}
	}
}
