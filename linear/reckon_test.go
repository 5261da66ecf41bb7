package linear_test

import (
	"math/big"
	"math/rand/v2"
	"testing"

	"steelyard/api"
	"steelyard/linear"
	"steelyard/nat"
	"steelyard/ratio"
)

// sums are p, k, q, and p and k times q.
var sums = [][4]string{
	{"0", "0", "0", "0"},
	{"5", "2", "-1/2", "4"},
	{"0", "7", "0 1@0", "0 7@0"},
	{"0 1@0", "-4", "0 1@3", "0 1@0 -4@3"},
	{"0 1@3", "-4", "0 1@0", "0 -4@0 1@3"},
	{"1 2@0 3@2", "1", "1 1@1 1@3", "2 2@0 1@1 3@2 1@3"},
	{"1 1@1 1@3", "1", "1 2@0 3@2", "2 2@0 1@1 3@2 1@3"},
	{"1 1@0 1@1 1@2", "10", "2 1@0 1@1 1@2", "21 11@0 11@1 11@2"},
	{"0 1@5 1@6", "1", "0 1@1 1@2", "0 1@1 1@2 1@5 1@6"},
	{"0 1@1 1@2", "1", "0 1@5 1@6", "0 1@1 1@2 1@5 1@6"},
	{"0 1@0 1@9223372036854775807", "1/3", "1 1@4 1@9223372036854775807", "1/3 1@0 1/3@4 4/3@9223372036854775807"},
	// What comes to 0 is gone: the first one, one between others, the last one, all.
	{"5 2@0 -4@3", "-2", "0 1@0", "5 -4@3"},
	{"5 2@0 -4@3", "4", "0 1@3", "5 2@0"},
	{"1 1@0 1@1 1@2", "-1", "1 1@1", "0 1@0 1@2"},
	{"1 1@0 1@1 1@2", "-1/2", "2 2@0 2@1 2@2", "0"},
	{"1 1/2@0 1@1", "-1/4", "0 2@0 1@4", "1 1@1 -1/4@4"},
	// 0 times a sum; a sum with nothing.
	{"1 1/2@0 -1@1", "0", "7 5@0 5@1 5@2", "1 1/2@0 -1@1"},
	{"1 1/2@0 -1@1", "9", "0", "1 1/2@0 -1@1"},
	{"0", "-1", "1 1/2@0 -1@1", "-1 -1/2@0 1@1"},
}

func TestP122Add(t *testing.T) {
	for _, c := range sums {
		b := nat.New(1)
		same(t, c[0]+" and "+c[1]+" times "+c[2], linear.Add(b, read(t, c[0]), number(t, c[1]), read(t, c[2])), c[3])
		if b.Over() {
			t.Errorf("%v: the bench is over", c)
		}
	}
}

func TestP122Scale(t *testing.T) {
	for _, c := range [][3]string{
		{"3", "0", "0"}, {"0", "5 1@0 -1/2@1", "0"}, {"1", "5 1@0 -1/2@1", "5 1@0 -1/2@1"}, {"-1", "5 1@0 -1/2@1", "-5 -1@0 1/2@1"},
		{"-2/3", "3/2 -1@0 6/7@4", "-1 2/3@0 -4/7@4"}, {"1/5", "5 5@2 25@3", "1 1@2 5@3"}, {"4", "0 1/4@9223372036854775807", "0 1@9223372036854775807"},
	} {
		b := nat.New(1)
		same(t, c[0]+" times "+c[1], linear.Scale(b, number(t, c[0]), read(t, c[1])), c[2])
		if b.Over() {
			t.Errorf("%v: the bench is over", c)
		}
	}
}

func TestP122AgainstBig(t *testing.T) {
	r := rand.New(rand.NewPCG(11, 12))
	b := nat.New(1000)
	list := samples(60)
	for _, p := range list {
		for _, q := range list {
			k := someNumber(r, 3)
			// What is gone again and again: k times q takes an unknown off p now and then.
			if len(p.Monos) > 0 && len(q.Monos) > 0 && r.IntN(2) == 0 {
				x, y := p.Monos[r.IntN(len(p.Monos))], q.Monos[r.IntN(len(q.Monos))]
				k = ratio.Neg(ratio.Div(b, x.Coef, y.Coef))
			}
			same(t, "Add", linear.Add(b, p, k, q), modelOf(p).plus(rat(k), modelOf(q)).text())
			same(t, "Scale", linear.Scale(b, k, q), model{}.plus(rat(k), modelOf(q)).text())
		}
		same(t, "Add of itself, -1 times", linear.Add(b, p, ratio.Of(-1), p), "0")
	}
	if b.Over() {
		t.Error("the bench is over")
	}
}

func TestP122Normal(t *testing.T) {
	for _, c := range [][3]string{
		// the sum, q, k
		{"3 2@0 -1@1", "0 1@0 -1/2@1", "2"},
		{"0 1@0", "0 1@0", "1"}, {"7 -1@5", "0 1@5", "-1"}, {"-1/2 -2/3@0 1@1", "0 1@0 -3/2@1", "-2/3"}, {"0 1/4@2 1/4@3 1/2@9", "0 1@2 1@3 2@9", "1/4"},
		{"5 1@1 -7@2", "0 1@1 -7@2", "1"}, {"0 -3@9223372036854775807", "0 1@9223372036854775807", "-3"},
		// without unknowns
		{"0", "0", "0"}, {"5", "0", "0"}, {"-1/3", "0", "0"}, {"18446744073709551616", "0", "0"},
	} {
		b := nat.New(1)
		q, k := linear.Normal(b, read(t, c[0]))
		same(t, "Normal of "+c[0], q, c[1])
		if !ratio.Right(k) || ratio.Text(k) != c[2] || b.Over() {
			t.Errorf("Normal of %s: %v times, not %s; over: %v", c[0], k, c[2], b.Over())
		}
	}
}

func TestP122NormalAgainstBig(t *testing.T) {
	b := nat.New(1000)
	for _, p := range samples(400) {
		q, k := linear.Normal(b, p)
		if len(p.Monos) == 0 {
			if !nothing(q) || !noNumber(k) {
				t.Errorf("Normal of %s: %v, %v", text(p), q, k)
			}
			continue
		}
		same(t, "Normal", api.Poly{Const: q.Const, Monos: q.Monos[:1]}, text(linear.Of(p.Monos[0].Var)))
		want := modelOf(api.Poly{Const: p.Const}).plus(rat(k), modelOf(q))
		if !oneForm(q) || !ratio.Right(k) || want.text() != text(p) {
			t.Errorf("Normal of %s: %v, %v", text(p), q, k)
		}
	}
	if b.Over() {
		t.Error("the bench is over")
	}
}

// onBench is a call on a bench, that answers a sum, and a number where it has one.
type onBench func(b *nat.Bench) (api.Poly, api.Ratio)

// add gives the call of Add of texts.
func add(t *testing.T, p, k, q string) onBench {
	t.Helper()
	first, times, second := read(t, p), number(t, k), read(t, q)
	return func(b *nat.Bench) (api.Poly, api.Ratio) { return linear.Add(b, first, times, second), api.Ratio{} }
}

// scale gives the call of Scale of texts.
func scale(t *testing.T, k, p string) onBench {
	t.Helper()
	times, sum := number(t, k), read(t, p)
	return func(b *nat.Bench) (api.Poly, api.Ratio) { return linear.Scale(b, times, sum), api.Ratio{} }
}

// normal gives the call of Normal of a text.
func normal(t *testing.T, p string) onBench {
	t.Helper()
	sum := read(t, p)
	return func(b *nat.Bench) (api.Poly, api.Ratio) { return linear.Normal(b, sum) }
}

// What just fits on a bench for one limb lets it not be over.
func TestP122Fits(t *testing.T) {
	for i, do := range []onBench{
		add(t, "4294967295 4294967295@0", "1", "0 4294967295@1"), add(t, "4294967294 4294967294@0", "1", "1 1@0"), add(t, "1/4294967295", "1", "0 -1/4294967295@3"),
		add(t, "-1 -1@1", "-4294967295", "0 1@0 1@2"), add(t, "4294967295 4294967295@0", "-1", "4294967295 4294967295@0"),
		// k, or q, has too many limbs, but not k times q.
		add(t, "1 1@0", "4294967296", "0 1/4294967296@0"), add(t, "1 1@0", "1/4294967296", "4294967296 8589934592@1"), add(t, "1 1@0", "0", "4294967296 4294967296@0 4294967296@1"),
		add(t, "1 1@0", "18446744073709551616", "0"),
		scale(t, "1", "4294967295 -4294967295@0 1/4294967295@1"), scale(t, "65537", "65535 65535@4"), scale(t, "4294967296", "1/4294967296 3/4294967296@0"),
		scale(t, "1/4294967296", "4294967296 4294967296@0"), scale(t, "0", "4294967296 1/4294967296@0"), scale(t, "4294967296", "0"),
		normal(t, "0 4294967295@0 1@1"), normal(t, "0 1/4294967295@0 1@1"), normal(t, "0 4294967295@0 -4294967295@1"), normal(t, "0 1@0 -4294967295@1 1/4294967295@2"),
		// What is in the sum need not be in its Normal.
		normal(t, "4294967296 1@0"), normal(t, "1/4294967296 1@0 1@2"), normal(t, "0 65536@0 4294967296@1"), normal(t, "4294967296"),
	} {
		b := nat.New(1)
		p, k := do(b)
		q, l := do(nat.New(9))
		if b.Over() || text(p) != text(q) || ratio.Text(k) != ratio.Text(l) {
			t.Errorf("%d: %v, %v, over: %v; not %v, %v", i, p, k, b.Over(), q, l)
		}
	}
}

// Where one number alone doesn't fit, the answer is nothing.
func TestP122BecomesOver(t *testing.T) {
	for i, do := range []onBench{
		// a number of the sum: of p, of k times q, of both
		add(t, "4294967296 1@0", "1", "0"), add(t, "1 4294967296@0", "1", "1 1@1"), add(t, "1 1@0 -1/4294967296@7", "1", "1 1@1"), add(t, "1 4294967296@4", "0", "1 1@1"),
		add(t, "1 1@0", "1", "4294967296"), add(t, "1 1@0", "1", "0 4294967296@1"), add(t, "1 1@1", "65536", "1 1@0 65536@3"), add(t, "1 1@1", "1/65536", "1 1@0 1/65536@1"),
		add(t, "4294967295 1@0", "1", "1 1@0"), add(t, "1 4294967295@0", "1", "1 1@0"), add(t, "1 1@0 4294967295@1", "-1", "1 1@0 -1@1"), add(t, "1/65537 1@0", "1", "1/65539"),
		add(t, "1 1/65537@0", "1", "1 1/65539@0"), add(t, "1 1@0", "4294967296", "0 1@0"), add(t, "0 4294967296@0", "1", "0"), add(t, "0", "1", "0 4294967296@0"),
		scale(t, "1", "4294967296 1@0"), scale(t, "1", "1 4294967296@0"), scale(t, "1", "1 1@0 -1/4294967296@1"), scale(t, "2", "4294967295 1@0"), scale(t, "2", "1 4294967295@0"),
		scale(t, "2", "1 1@0 4294967295@3 1@4"), scale(t, "1/2", "1 1@0 1/4294967295@3"), scale(t, "4294967296", "0 1@0"), scale(t, "4294967296", "1"),
		// k, or q
		normal(t, "0 4294967296@0"), normal(t, "0 -1/4294967296@0"), normal(t, "0 4294967296@0 4294967296@1"), normal(t, "0 65536@0 1/65536@1"), normal(t, "0 1/65536@0 65536@1"),
		normal(t, "0 1@0 1@1 4294967296@2"), normal(t, "0 1@0 4294967296@1 1@2"), normal(t, "0 2@0 1/4294967295@2"),
	} {
		b := nat.New(1)
		if p, k := do(b); !b.Over() || !nothing(p) || !noNumber(k) {
			t.Errorf("%d: %v, %v, over: %v", i, p, k, b.Over())
		}
		b = nat.New(2)
		if p, _ := do(b); b.Over() || nothing(p) {
			t.Errorf("%d on two limbs: %v, over: %v", i, p, b.Over())
		}
	}
}

func TestP122OverAhead(t *testing.T) {
	list := samples(20)
	for _, p := range list {
		for _, q := range list {
			b := overBench(9)
			n, k := linear.Normal(b, p)
			if !nothing(linear.Add(b, p, ratio.Of(1), q)) || !nothing(linear.Scale(b, ratio.Of(1), p)) || !nothing(n) || !noNumber(k) || !b.Over() {
				t.Errorf("of %s and %s something is told on a bench that is over", text(p), text(q))
			}
		}
	}
}

// P12.2: the bench is over where the sum doesn't fit, and only where p, k times q, or the sum doesn't.
func TestP122BenchAgainstBig(t *testing.T) {
	r := rand.New(rand.NewPCG(13, 14))
	var overs, rights int
	for range 20000 {
		limbs := 1 + r.IntN(3)
		p, q, k := someSum(r, 4, limbs), someSum(r, 4, limbs), someNumber(r, limbs)
		first, product := modelOf(p), model{}.plus(rat(k), modelOf(q))
		sum := first.plus(big.NewRat(1, 1), product)
		b := nat.New(limbs)
		got := linear.Add(b, p, k, q)
		switch {
		case b.Over() && (!nothing(got) || !first.tooGreat(limbs) && !product.tooGreat(limbs) && !sum.tooGreat(limbs)):
			t.Fatalf("%s and %s times %s: %v, over", text(p), ratio.Text(k), text(q), got)
		case !b.Over() && (sum.tooGreat(limbs) || text(got) != sum.text()):
			t.Fatalf("%s and %s times %s: %v", text(p), ratio.Text(k), text(q), got)
		case b.Over():
			overs++
		default:
			rights++
		}
		b = nat.New(limbs)
		if got = linear.Scale(b, k, q); b.Over() != product.tooGreat(limbs) || b.Over() && !nothing(got) || !b.Over() && text(got) != product.text() {
			t.Fatalf("%s times %s: %v, over: %v", ratio.Text(k), text(q), got, b.Over())
		}
		normalOnBench(t, p, 1+r.IntN(3))
	}
	if overs < 2000 || rights < 2000 {
		t.Errorf("%d are over, %d are right", overs, rights)
	}
}

// normalOnBench tells an error, if the bench isn't over just where a number of Normal doesn't fit.
func normalOnBench(t *testing.T, p api.Poly, limbs int) {
	t.Helper()
	q, k := linear.Normal(nat.New(1000), p)
	b := nat.New(limbs)
	r, l := linear.Normal(b, p)
	switch over := modelOf(q).tooGreat(limbs) || tooGreat(rat(k), limbs); {
	case b.Over() != over:
		t.Fatalf("Normal of %s on %d limbs: over: %v", text(p), limbs, b.Over())
	case over && (!nothing(r) || !noNumber(l)), !over && (text(r) != text(q) || ratio.Text(l) != ratio.Text(k)):
		t.Fatalf("Normal of %s on %d limbs: %v, %v", text(p), limbs, r, l)
	}
}
