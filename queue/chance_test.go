package queue_test

import (
	"fmt"
	"math/rand/v2"
	"testing"

	"steelyard/api"
	"steelyard/queue"
)

// call does the same with a queue and with its model, and tells an error, if they answer otherwise; kind is 0 to 4.
func call(t *testing.T, q *api.Queue, m *model, kind, v, by int) {
	t.Helper()
	what := fmt.Sprintf("call %d (%d, %d) of %v", kind, v, by, *q)
	was := copyOf(*q)
	switch kind {
	case 0:
		if code, want := queue.Push(q, v), m.push(v); code != want {
			t.Fatalf("%s: %v, not %v", what, code, want)
		} else if code != api.OK {
			stays(t, what, *q, was)
		}
	case 1:
		x, ok := queue.Pop(q)
		if want, is := m.pop(); x != want || ok != is {
			t.Fatalf("%s: %d, %v, not %d, %v", what, x, ok, want, is)
		}
	case 2:
		if code, want := queue.Bump(q, v, by), m.bump(v, by); code != want {
			t.Fatalf("%s: %v, not %v", what, code, want)
		} else if code != api.OK {
			stays(t, what, *q, was)
		}
	case 3:
		queue.Halve(q)
		m.halve()
	default:
		if queue.Has(*q, v) != m.has(v) {
			t.Fatalf("%s: %v", what, !m.has(v))
		}
		stays(t, what, *q, was)
	}
	is(t, what, *q, m)
}

// P17.2: each call at each queue that is right, of few unknowns and small scores, does what the document tells.
func TestP172Each(t *testing.T) {
	for n := range 5 {
		eachQueue(n, 4, func(q api.Queue) {
			if !modelRight(q) {
				return
			}
			for kind := range 5 {
				for v := -1; v <= n; v++ {
					for by := -1; by < 4; by++ {
						x := copyOf(q)
						call(t, &x, newModel(x), kind, v, by)
					}
				}
			}
		})
	}
}

// anyQueue gives a queue that is right: unknowns are put in and taken out by chance.
func anyQueue(r *rand.Rand, n int) api.Queue {
	q := queue.New(n)
	for range 3 * n {
		v := r.IntN(n)
		if r.IntN(3) == 0 {
			queue.Bump(&q, v, r.IntN(most))
		} else {
			queue.Bump(&q, v, r.IntN(4))
		}
		if r.IntN(3) > 0 {
			queue.Pop(&q)
		} else {
			queue.Push(&q, v)
		}
	}
	return q
}

// P17.2: calls one behind the other, with scores small and great.
func TestP172ByChance(t *testing.T) {
	overs := 0
	for seed := range uint64(400) {
		r := rand.New(rand.NewPCG(17, seed))
		n := 1 + r.IntN(60)
		q := anyQueue(r, n)
		m := newModel(q)
		for range 400 {
			kind, v, by := r.IntN(3), r.IntN(n+2)-1, r.IntN(6)-1
			switch r.IntN(20) {
			case 0:
				kind = 3
			case 1:
				kind = 4
			case 2, 3:
				kind, by = 2, r.IntN(2*most)
			}
			if kind == 2 && v >= 0 && v < n && by > most-q.Score[v] {
				overs++
			}
			call(t, &q, m, kind, v, by)
		}
	}
	if overs < 1000 {
		t.Errorf("%d are over", overs)
	}
}

// P17.2: what comes out of a queue is in the order of scores, whatever was done ahead.
func TestP172AllOut(t *testing.T) {
	for seed := range uint64(200) {
		r := rand.New(rand.NewPCG(18, seed))
		q := anyQueue(r, 1+r.IntN(300))
		in := len(q.Heap)
		last, score := -1, most
		for range in {
			v, ok := queue.Pop(&q)
			if !ok || q.Score[v] > score || q.Score[v] == score && v <= last {
				t.Fatalf("seed %d: %d (%d) comes out behind %d (%d)", seed, v, q.Score[v], last, score)
			}
			last, score = v, q.Score[v]
		}
		pops(t, "all", &q)
	}
}
