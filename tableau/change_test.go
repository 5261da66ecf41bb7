package tableau_test

import (
	"math"
	"slices"
	"testing"

	"steelyard/api"
	"steelyard/nat"
	"steelyard/ratio"
	"steelyard/tableau"
)

func TestP142Update(t *testing.T) {
	for _, c := range []struct {
		text  string
		v     int
		value string
		want  string
	}{
		{" | 0", 0, "5", " | 5"}, {" | 3 4 5", 1, "-1/2+1d", " | 3 -1/2+1d 5"},
		{"2: 1@0 2@1; 3: 1@0 -1@1 | 0 0 0 0", 1, "5", "2: 1@0 2@1; 3: 1@0 -1@1 | 0 5 10 -5"},
		{"2: 1@0 2@1; 3: 1@0 -1@1 | 0 5 10 -5", 0, "-1/2", "2: 1@0 2@1; 3: 1@0 -1@1 | -1/2 5 19/2 -11/2"},
		{"2: 1@0 2@1; 3: 1@0 -1@1 | 0 5 10 -5", 1, "5", "2: 1@0 2@1; 3: 1@0 -1@1 | 0 5 10 -5"},
		{"2: 1@0 2@1; 3: 1@0 -1@1 | 0 5 10 -5", 1, "0", "2: 1@0 2@1; 3: 1@0 -1@1 | 0 0 0 0"},
		// parts by themselves
		{"2: 3@0 1/3@1 | 1+1d 3-1d 4+8/3d", 1, "3", "2: 3@0 1/3@1 | 1+1d 3 4+3d"}, {"2: 3@0 1/3@1 | 1+1d 3-1d 4+8/3d", 0, "0+1d", "2: 3@0 1/3@1 | 0+1d 3-1d 1+8/3d"},
		// rows in which the unknown isn't, and one without any
		{"1: 1@4; 3: ; 0: 2@2 | 2 3 1 0 3", 2, "4", "1: 1@4; 3: ; 0: 2@2 | 8 3 4 0 3"}, {"1: 1@4; 3: ; 0: 2@2 | 2 3 1 0 3", 4, "-3", "1: 1@4; 3: ; 0: 2@2 | 2 -3 1 0 -3"},
		// Bounds don't hold it.
		{"1: 2@0 | 1 2 | 3@1 4@2 | 5@1 6@2", 0, "-9", "1: 2@0 | -9 -18 | 3@1 4@2 | 5@1 6@2"},
		// the first one, the last one, one in the middle of a long row
		{"6: 1@0 2@1 3@2 4@3 5@4 6@5 | 0 0 0 0 0 0 0", 0, "1", "6: 1@0 2@1 3@2 4@3 5@4 6@5 | 1 0 0 0 0 0 1"},
		{"6: 1@0 2@1 3@2 4@3 5@4 6@5 | 0 0 0 0 0 0 0", 5, "1", "6: 1@0 2@1 3@2 4@3 5@4 6@5 | 0 0 0 0 0 1 6"},
		{"6: 1@0 2@1 3@2 4@3 5@4 6@5 | 0 0 0 0 0 0 0", 3, "1", "6: 1@0 2@1 3@2 4@3 5@4 6@5 | 0 0 0 1 0 0 4"},
	} {
		b, x := nat.New(1), read(t, c.text)
		if code := tableau.Update(b, &x, c.v, value(t, c.value)); code != api.OK || b.Over() {
			t.Errorf("%s, %d is %s: %v, over: %v", c.text, c.v, c.value, code, b.Over())
		}
		is(t, c.text, x, c.want)
	}
}

func TestP142Pivot(t *testing.T) {
	for _, c := range []struct {
		text   string
		row, v int
		want   string
	}{
		{"2: 1@0 1@1 | 0 0 0", 0, 0, "0: -1@1 1@2 | 0 0 0"}, {"2: 1@0 1@1 | 0 0 0", 0, 1, "1: -1@0 1@2 | 0 0 0"}, {"1: -2/3@0 | 3 -2", 0, 0, "0: -3/2@1 | 3 -2"},
		{"2: 1@0 2@1; 3: 1@0 -1@1 | 0 5 10 -5", 0, 1, "1: -1/2@0 1/2@2; 3: 3/2@0 -1/2@2 | 0 5 10 -5"},
		{"2: 1@0 2@1; 3: 1@0 -1@1 | 0 5 10 -5", 1, 0, "2: 3@1 1@3; 0: 1@1 1@3 | 0 5 10 -5"},
		// an unknown that is gone from another row by it
		{"2: 1@0 2@1; 3: 2@0 4@1 | 1 1 3 6", 0, 0, "0: -2@1 1@2; 3: 2@2 | 1 1 3 6"}, {"2: 1@0 1@1; 3: 1@0 1@1; 4: 1@0 | 1 1 2 2 1", 1, 1, "2: 1@3; 1: -1@0 1@3; 4: 1@0 | 1 1 2 2 1"},
		// one that comes into another row
		{"3: 1@0 1@1; 4: 1@1 1@2 | 1 2 3 3 5", 1, 1, "3: 1@0 -1@2 1@4; 1: -1@2 1@4 | 1 2 3 3 5"},
		// The row's place stays; values and bounds do, too.
		{"5: 1@4; 3: 3@2; 0: 1@1 2@2 | 3+1d 1-1d 1+1d 3+3d 7 7 | - 2@1 - -4@1/2-1d - - | 7@9 - - - 1@1 6@0", 2, 2, "5: 1@4; 3: 3/2@0 -3/2@1; 2: 1/2@0 -1/2@1 | 3+1d 1-1d 1+1d 3+3d 7 7 | - 2@1 - -4@1/2-1d - - | 7@9 - - - 1@1 6@0"},
		// the basic one ahead of all others, or between them
		{"0: 1@1 1@2 | 3 1 2", 0, 2, "2: 1@0 -1@1 | 3 1 2"}, {"2: 2@0 4@1 6@3 8@4 | 1 1 4 -1 1/2", 0, 3, "3: -1/3@0 -2/3@1 1/6@2 -4/3@4 | 1 1 4 -1 1/2"},
	} {
		b, x := nat.New(1), read(t, c.text)
		want := read(t, c.want)
		if code := tableau.Pivot(b, &x, c.row, c.v); code != api.OK || b.Over() {
			t.Errorf("%s, row %d, %d: %v, over: %v", c.text, c.row, c.v, code, b.Over())
		}
		if is(t, c.text, x, c.want); !tableau.Same(x, want) {
			t.Errorf("%s isn't the same as %s", show(x), c.want)
		}
	}
}

// The document's example: s = x + y; Pivot of x: x = s - y.
func TestP142Example(t *testing.T) {
	x := tableau.New(problem(t, 2, "1@0 1@1"))
	if code := tableau.Pivot(nat.New(1), &x, 0, 0); code != api.OK || tableau.Row(x, 0) != 0 || tableau.Row(x, 2) != -1 {
		t.Errorf("%v, %s", code, show(x))
	}
	is(t, "s = x + y", x, "0: -1@1 1@2 | 0 0 0")
}

// wrong tells an error, if a call doesn't answer a code, or changes the tableau or the bench; on a bench that is over, too.
func wrong(t *testing.T, want api.Errno, do func(b *nat.Bench, x *api.Tableau) api.Errno) {
	t.Helper()
	for _, b := range []*nat.Bench{nat.New(1), overBench(1)} {
		x, over := rich(t), b.Over()
		if code := do(b, &x); code != want || b.Over() != over || show(x) != show(rich(t)) {
			t.Errorf("%v, not %v; over: %v; %s", code, want, b.Over(), show(x))
		}
	}
}

func TestP142UpdateRange(t *testing.T) {
	for _, v := range []int{-1, -2, math.MinInt, 6, 7, math.MaxInt, 4, 1, 5} {
		for _, text := range []string{"0", "2", "18446744073709551616-1d"} {
			wrong(t, api.ErrRange, func(b *nat.Bench, x *api.Tableau) api.Errno {
				return tableau.Update(b, x, v, value(t, text))
			})
		}
	}
	x := api.Tableau{}
	if code := tableau.Update(nat.New(1), &x, 0, api.Delta{}); code != api.ErrRange {
		t.Errorf("of no unknowns: %v", code)
	}
}

func TestP142PivotRange(t *testing.T) {
	for _, row := range []int{-1, -2, math.MinInt, 3, 4, math.MaxInt} {
		// ErrRange is told ahead of ErrArg.
		for _, v := range []int{0, 2, 3, 4, 9, -1, math.MaxInt} {
			wrong(t, api.ErrRange, func(b *nat.Bench, x *api.Tableau) api.Errno { return tableau.Pivot(b, x, row, v) })
		}
	}
	x := api.Tableau{}
	if code := tableau.Pivot(nat.New(1), &x, 0, 0); code != api.ErrRange {
		t.Errorf("of no rows: %v", code)
	}
}

func TestP142PivotArg(t *testing.T) {
	for row, list := range [][]int{{4, 1, 3, 5, -1, 6, math.MinInt, math.MaxInt}, {1, 2, 3, 4, 5, -1, 6}, {0, 1, 4, 5, -1, 6, math.MaxInt}} {
		for _, v := range list {
			wrong(t, api.ErrArg, func(b *nat.Bench, x *api.Tableau) api.Errno { return tableau.Pivot(b, x, row, v) })
		}
	}
	x := read(t, "1: | 0 0")
	if code := tableau.Pivot(nat.New(1), &x, 0, 0); code != api.ErrArg {
		t.Errorf("of a row without unknowns: %v", code)
	}
}

// onBench is a change of a tableau.
type onBench func(b *nat.Bench) (api.Tableau, api.Errno)

// update gives the call of Update of texts.
func update(t *testing.T, text string, v int, s string) onBench {
	t.Helper()
	return func(b *nat.Bench) (api.Tableau, api.Errno) {
		x := read(t, text)
		code := tableau.Update(b, &x, v, value(t, s))
		return x, code
	}
}

// pivot gives the call of Pivot of a text.
func pivot(t *testing.T, text string, row, v int) onBench {
	t.Helper()
	return func(b *nat.Bench) (api.Tableau, api.Errno) {
		x := read(t, text)
		code := tableau.Pivot(b, &x, row, v)
		return x, code
	}
}

func TestP142OverAhead(t *testing.T) {
	for i, do := range []onBench{
		update(t, " | 0", 0, "0"), update(t, " | 0", 0, "5"), update(t, "1: 1@0 | 0 0", 0, "0"), update(t, "2: 1@0 2@1; 3: 1@0 -1@1 | 0 5 10 -5", 1, "1"),
		pivot(t, "1: 1@0 | 0 0", 0, 0), pivot(t, "2: 1@0 2@1; 3: 1@0 -1@1 | 0 5 10 -5", 1, 1),
	} {
		if _, code := do(overBench(3)); code != api.ErrOver {
			t.Errorf("%d: %v", i, code)
		}
	}
}

// What just fits on a bench for one limb lets it not be over.
func TestP142Fits(t *testing.T) {
	for i, do := range []onBench{
		update(t, " | 0", 0, "4294967295-1/4294967295d"), update(t, "1: 1@0 | 0 0", 0, "4294967295"), update(t, "1: 65537@0 | 0 0", 0, "65535"), update(t, "2: 1@0 1@1 | 0 4294967294 4294967294", 0, "1"),
		update(t, "1: 1/65537@0 | 0 0", 0, "1/65535+1d"), update(t, "1: 2@0 | 1073741823 2147483646", 0, "-1073741824"),
		// what isn't in the row, or stays as it is
		update(t, "2: 4294967296@1 | 0 1 4294967296 | 1@4294967296 - - | - 1@1/4294967296 -", 0, "7"),
		pivot(t, "1: 4294967295@0 | 0 0", 0, 0), pivot(t, "1: 1/4294967295@0 | 0 0", 0, 0), pivot(t, "2: 65537@0 1/65535@1 | 0 0 0", 0, 0), pivot(t, "2: 65535@0 4294967295@1 | 0 0 0", 0, 0),
		pivot(t, "2: 1@0 65537@1; 3: 65535@0 | 0 0 0 0", 0, 0), pivot(t, "2: 1@0 -1@1; 3: 1@0 4294967294@1 | 0 0 0 0", 0, 0),
		// numbers that aren't reckoned: values, bounds, rows in which the unknown isn't
		pivot(t, "2: 1@0; 3: 4294967296@1 | 4294967296 1 4294967296 4294967296 | 1@1/4294967296 - - - | - - - 1@4294967296", 0, 0),
	} {
		b := nat.New(1)
		x, code := do(b)
		y, other := do(nat.New(9))
		if code != api.OK || other != api.OK || b.Over() || !tableau.Right(x) || !tableau.Same(x, y) {
			t.Errorf("%d: %v, over: %v: %s", i, code, b.Over(), show(x))
		}
	}
}

// Where one number alone doesn't fit, it is ErrOver.
func TestP142BecomesOver(t *testing.T) {
	for i, do := range []onBench{
		// how much more it is: A, B; what a row's unknown is more; what it is then
		update(t, " | 0", 0, "4294967296"), update(t, " | 0", 0, "1-4294967296d"), update(t, " | -4294967295", 0, "1"), update(t, " | 1/65537", 0, "1/65539"), update(t, " | 0", 0, "1/4294967296"),
		update(t, "1: 2@0 | 0 0", 0, "2147483648"), update(t, "1: 65536@0 | 0 0", 0, "1-65536d"), update(t, "1: 1/65536@0 | 0 0", 0, "1/65536"), update(t, "2: 1@0; 1: 65536@0 | 0 0 0", 0, "65536"),
		update(t, "2: 1@0 1@1 | 0 4294967295 4294967295", 0, "1"), update(t, "2: 1@0 1@1 | 0 1/65537+1d 1/65537+1d", 0, "1/65539"), update(t, "2: 1@0 1@1 | 0 1+4294967295d 1+4294967295d", 0, "0+1d"),
		// 1 through how often it stands; what another one stands then
		pivot(t, "1: 4294967296@0 | 0 0", 0, 0), pivot(t, "1: -1/4294967296@0 | 0 0", 0, 0), pivot(t, "2: 1/65536@0 65536@1 | 0 0 0", 0, 0), pivot(t, "2: 65536@0 1/65536@1 | 0 0 0", 0, 0), pivot(t, "2: 1@0 4294967296@1 | 0 0 0", 0, 0),
		// what another row is then: the unknown that was basic, one that comes into it, one that was there
		pivot(t, "2: 1/65536@0; 3: 65536@0 | 0 0 0 0", 0, 0), pivot(t, "2: 1@0 65536@1; 3: 65536@0 | 0 0 0 0", 0, 0), pivot(t, "2: 1@0 -1@1; 3: 1@0 4294967295@1 | 0 0 0 0", 0, 0),
		pivot(t, "2: 1@0 1/65537@1; 3: 1@0 1/65539@1 | 0 0 0 0", 0, 0), pivot(t, "2: 1@0; 3: 4294967296@0 | 0 0 0 0", 0, 0),
	} {
		b := nat.New(1)
		if x, code := do(b); code != api.ErrOver || !b.Over() {
			t.Errorf("%d: %v, over: %v: %s", i, code, b.Over(), show(x))
		}
		b = nat.New(3)
		if x, code := do(b); code != api.OK || b.Over() || !tableau.Right(x) {
			t.Errorf("%d on three limbs: %v: %s", i, code, show(x))
		}
	}
}

// Long rows, and many, are gone through in little time.
func TestP142GreatTableaux(t *testing.T) {
	const count, rows = 5_000, 20
	p := api.Problem{Reals: count}
	for i := range rows {
		q := api.Poly{}
		for v := i; v < count; v++ {
			q.Monos = append(q.Monos, api.Mono{Var: v, Coef: ratio.Of(int64(1 + (v+i)%3))})
		}
		p.Rows = append(p.Rows, q)
	}
	x, b := tableau.New(p), nat.New(2)
	before := copyOf(x)
	for row := range rows {
		v := row + 7
		if code := tableau.Pivot(b, &x, row, v); code != api.OK {
			t.Fatal(code)
		}
		if code := tableau.Pivot(b, &x, row, count+row); code != api.OK {
			t.Fatal(code)
		}
	}
	if !tableau.Same(x, before) || !tableau.Right(x) {
		t.Error("it isn't what it was")
	}
	for v := range 200 {
		if code := tableau.Update(b, &x, v, api.Delta{A: ratio.Of(1)}); code != api.OK {
			t.Fatal(code)
		}
	}
	if !tableau.Right(x) || slices.ContainsFunc(x.Values[:200], func(y api.Delta) bool { return ratio.Text(y.A) != "1" }) {
		t.Error("it isn't right")
	}
}
