package queue_test

import (
	"fmt"
	"math"
	"math/rand/v2"
	"slices"
	"strings"
	"testing"

	"steelyard/api"
	"steelyard/queue"
)

// oddInts gives numbers at the edges.
func oddInts() []int {
	return []int{math.MinInt, math.MinInt + 1, -2, -1, 0, 1, 2, 3, 4, 5, most - 1, most, most + 1, math.MaxInt - 1, math.MaxInt}
}

// pick gives one of a list.
func pick[T any](r *rand.Rand, list []T) T { return list[r.IntN(len(list))] }

// oddQueue gives a queue that seldom is right.
func oddQueue(r *rand.Rand) api.Queue {
	var q api.Queue
	some := func() int {
		if r.IntN(3) == 0 {
			return pick(r, oddInts())
		}
		return r.IntN(6)
	}
	for range r.IntN(7) {
		q.Score = append(q.Score, some())
	}
	for range r.IntN(9) {
		q.Heap = append(q.Heap, some())
	}
	// The lists may be one.
	switch r.IntN(10) {
	case 0:
		q.Heap = q.Score
	case 1:
		q.Score = q.Heap[:len(q.Heap)/2]
	}
	return q
}

// answers gives what all calls answer, at queues that seldom are right, as a text.
func answers(seed uint64, count int) string {
	r := rand.New(rand.NewPCG(17, seed))
	var out strings.Builder
	say := func(list ...any) { fmt.Fprintln(&out, list...) }
	for range count {
		q := oddQueue(r)
		for range 10 {
			v, by := pick(r, oddInts()), pick(r, oddInts())
			say(queue.Push(&q, v), queue.Has(q, v), queue.Right(q), q)
			x, ok := queue.Pop(&q)
			say(x, ok, q)
			say(queue.Bump(&q, v, by), queue.Bump(&q, r.IntN(6), r.IntN(6)), q)
			if r.IntN(4) == 0 {
				queue.Halve(&q)
			}
		}
	}
	q := queue.New(pick(r, []int{math.MinInt, -1, 0, 1, 7, 50}))
	say(q, queue.Right(q))
	return out.String()
}

// P1: a call that panics ends the test, one that doesn't end is cut off.
func TestP1NoCallPanics(t *testing.T) {
	defer func() {
		if e := recover(); e != nil {
			t.Errorf("a call panics: %v", e)
		}
	}()
	for seed := range uint64(20) {
		answers(seed, 500)
	}
	for _, v := range oddInts() {
		for _, by := range oddInts() {
			var q api.Queue
			queue.Push(&q, v)
			queue.Bump(&q, v, by)
			queue.Halve(&q)
			queue.Pop(&q)
			queue.Has(q, v)
			stays(t, "nothing", q, api.Queue{})
		}
	}
}

// P2: the same calls give the same answers, whatever goes on between them.
func TestP2SameCalls(t *testing.T) {
	first := answers(99, 300)
	answers(98, 20)
	if answers(99, 300) != first {
		t.Error("the same calls answer otherwise")
	}
}

// P2: what calls answer hangs on the lists, not on the room behind them.
func TestP2Room(t *testing.T) {
	for seed := range uint64(100) {
		r := rand.New(rand.NewPCG(19, seed))
		q := anyQueue(r, 1+r.IntN(30))
		n := len(q.Score)
		tight := api.Queue{Score: slices.Clip(slices.Clone(q.Score)), Heap: slices.Clip(slices.Clone(q.Heap))}
		wide := api.Queue{Score: slices.Grow(slices.Clone(q.Score), 99), Heap: slices.Grow(slices.Clone(q.Heap), 99)}
		for range 100 {
			v, by, pop, halve := r.IntN(n), r.IntN(5), r.IntN(3) == 0, r.IntN(9) == 0
			for _, x := range []*api.Queue{&tight, &wide} {
				queue.Push(x, v)
				queue.Bump(x, n-1-v, by)
				if pop {
					queue.Pop(x)
				}
				if halve {
					queue.Halve(x)
				}
			}
			if !slices.Equal(tight.Score, wide.Score) || !slices.Equal(tight.Heap, wide.Heap) {
				t.Fatalf("seed %d: %v, and %v", seed, tight, wide)
			}
		}
	}
}

// Rule 4: what New answers is new memory, and its lists share none.
func TestNewMemory(t *testing.T) {
	q, other := queue.New(5), queue.New(5)
	for _, list := range [][]int{q.Score, q.Heap} {
		list = list[:cap(list)]
		for i := range list {
			list[i] = 77
		}
	}
	stays(t, "the other one", other, queue.New(5))
	q = queue.New(5)
	clear(q.Heap[:cap(q.Heap)])
	if q.Score = q.Score[:cap(q.Score)]; slices.Max(q.Score) != 0 {
		t.Errorf("%v", q)
	}
	q = queue.New(5)
	queue.Bump(&q, 3, 9)
	queue.Pop(&q)
	stays(t, "the other one", other, queue.New(5))
}

// Rule 4: Has and Right change nothing of what is handed in.
func TestAskedStays(t *testing.T) {
	for seed := range uint64(300) {
		r := rand.New(rand.NewPCG(20, seed))
		q := oddQueue(r)
		was := copyOf(q)
		queue.Right(q)
		for _, v := range oddInts() {
			queue.Has(q, v)
		}
		stays(t, "asked", q, was)
	}
}

// Rule 3: lists without elements are one, however they are told.
func TestNoElements(t *testing.T) {
	for _, q := range []api.Queue{{}, {Score: []int{}}, {Heap: []int{}}, {Score: []int{}, Heap: []int{}}, queue.New(0)} {
		if !queue.Right(q) || queue.Has(q, 0) || queue.Push(&q, 0) != api.ErrRange || queue.Bump(&q, 0, 0) != api.ErrRange {
			t.Errorf("%v", q)
		}
		queue.Halve(&q)
		pops(t, "none", &q)
		if len(q.Score) > 0 || len(q.Heap) > 0 {
			t.Errorf("%v", q)
		}
	}
	for _, heap := range [][]int{nil, {}} {
		q := api.Queue{Score: []int{4, 4}, Heap: heap}
		queue.Halve(&q)
		pops(t, "none in", &q)
		queue.Push(&q, 1)
		pops(t, "one", &q, 1)
	}
}
