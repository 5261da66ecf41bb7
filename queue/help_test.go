package queue_test

import (
	"reflect"
	"slices"
	"testing"

	"steelyard/api"
	"steelyard/queue"
)

// most is the greatest score that may be.
const most = 1 << 60

// model is a queue by the document's words: scores, and which unknowns are in.
type model struct {
	scores []int
	in     []bool
}

// newModel gives the model of a queue that is right.
func newModel(q api.Queue) *model {
	m := &model{slices.Clone(q.Score), make([]bool, len(q.Score))}
	for _, v := range q.Heap {
		m.in[v] = true
	}
	return m
}

func (m *model) has(v int) bool { return v >= 0 && v < len(m.in) && m.in[v] }

func (m *model) push(v int) api.Errno {
	if v < 0 || v > len(m.in)-1 {
		return api.ErrRange
	}
	m.in[v] = true
	return api.OK
}

// pop goes through all unknowns from the greatest number on, so of more with the same score the least number is left.
func (m *model) pop() (int, bool) {
	first := -1
	for v := len(m.in) - 1; v >= 0; v-- {
		if m.in[v] && (first < 0 || m.scores[v] >= m.scores[first]) {
			first = v
		}
	}
	if first < 0 {
		return 0, false
	}
	m.in[first] = false
	return first, true
}

func (m *model) bump(v, by int) api.Errno {
	if v < 0 || v > len(m.in)-1 {
		return api.ErrRange
	}
	if by < 0 {
		return api.ErrArg
	}
	// No score is above 2^60, so a sum of two numbers that are at most that fits.
	if by > most || m.scores[v]+by > most {
		return api.ErrOver
	}
	m.scores[v] += by
	return api.OK
}

func (m *model) halve() {
	for v := range m.scores {
		m.scores[v] >>= 1
	}
}

// modelRight tells whether a queue may be, by the document's words.
func modelRight(q api.Queue) bool {
	n := len(q.Score)
	for _, s := range q.Score {
		if s < 0 || s > most {
			return false
		}
	}
	count := map[int]int{}
	for _, v := range q.Heap {
		if count[v]++; v < 0 || v >= n || count[v] > 1 {
			return false
		}
	}
	for i, v := range q.Heap {
		for _, at := range []int{2*i + 1, 2*i + 2} {
			if at >= len(q.Heap) {
				continue
			}
			w := q.Heap[at]
			if q.Score[w] > q.Score[v] || q.Score[w] == q.Score[v] && w < v {
				return false
			}
		}
	}
	return true
}

// is tells an error, if a queue isn't right, or has other scores, or others in, than its model.
func is(t *testing.T, what string, q api.Queue, m *model) {
	t.Helper()
	if !queue.Right(q) || !modelRight(q) {
		t.Fatalf("%s: %v isn't right", what, q)
	}
	in := make([]bool, len(q.Score))
	for _, v := range q.Heap {
		in[v] = true
	}
	if !slices.Equal(q.Score, m.scores) || !slices.Equal(in, m.in) {
		t.Fatalf("%s: %v, not %v", what, q, m)
	}
}

// copyOf gives a queue in memory of its own.
func copyOf(q api.Queue) api.Queue {
	return api.Queue{Score: slices.Clone(q.Score), Heap: slices.Clone(q.Heap)}
}

// stays tells an error, if a queue is another one than it was.
func stays(t *testing.T, what string, q, was api.Queue) {
	t.Helper()
	if !reflect.DeepEqual(q, was) {
		t.Fatalf("%s: %v, not %v", what, q, was)
	}
}

// pops tells an error, if not just these unknowns come out of a queue, in this order.
func pops(t *testing.T, what string, q *api.Queue, want ...int) {
	t.Helper()
	for i, w := range want {
		if v, ok := queue.Pop(q); v != w || !ok {
			t.Fatalf("%s: the %d. one is %d, %v, not %d", what, i+1, v, ok, w)
		}
		if !queue.Right(*q) || queue.Has(*q, w) {
			t.Fatalf("%s: behind the %d. one: %v", what, i+1, *q)
		}
	}
	if v, ok := queue.Pop(q); v != 0 || ok {
		t.Fatalf("%s: one more comes out: %d, %v", what, v, ok)
	}
}

// each gives all lists of so many numbers from 0 to below a number.
func each(length, below int, give func(list []int)) {
	if length == 0 {
		give(nil)
		return
	}
	each(length-1, below, func(list []int) {
		for x := range below {
			give(append(slices.Clone(list), x))
		}
	})
}

// eachQueue gives all queues of so many unknowns with scores below a number, with at most as many in: right ones, and wrong ones.
func eachQueue(n, below int, give func(q api.Queue)) {
	each(n, below, func(scores []int) {
		for length := range n + 1 {
			each(length, n, func(heap []int) {
				give(api.Queue{Score: scores, Heap: heap})
			})
		}
	})
}
