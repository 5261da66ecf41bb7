package queue_test

import (
	"math"
	"slices"
	"testing"

	"steelyard/api"
	"steelyard/queue"
)

func TestExample(t *testing.T) {
	q := queue.New(4)
	if code := queue.Bump(&q, 2, 1); code != api.OK {
		t.Error(code)
	}
	if v, ok := queue.Pop(&q); v != 2 || !ok {
		t.Errorf("%d, %v", v, ok)
	}
}

func TestP171New(t *testing.T) {
	for n, want := range map[int]int{
		math.MinInt: 0, -2: 0, -1: 0, 0: 0, 1: 1, 2: 2, 3: 3, 1000: 1000, 1<<20 - 1: 1<<20 - 1, 1 << 20: 1 << 20, 1<<20 + 1: 1 << 20, 1 << 32: 1 << 20, math.MaxInt: 1 << 20,
	} {
		q := queue.New(n)
		if len(q.Score) != want || len(q.Heap) != want || !queue.Right(q) {
			t.Fatalf("New(%d): %d scores, %d in", n, len(q.Score), len(q.Heap))
		}
		if slices.Max(append(q.Score, 0)) != 0 || slices.Min(append(q.Score, 0)) != 0 {
			t.Errorf("New(%d): scores that aren't 0", n)
		}
		for v, w := range slices.Sorted(slices.Values(q.Heap)) {
			if v != w {
				t.Fatalf("New(%d): %d isn't in", n, v)
			}
		}
	}
}

// Of all with the same score the least number comes out first, however many there are.
func TestP171NewPopped(t *testing.T) {
	q := queue.New(1 << 20)
	for v := range 1 << 20 {
		if w, ok := queue.Pop(&q); w != v || !ok {
			t.Fatalf("%d, %v, not %d", w, ok, v)
		}
	}
	pops(t, "empty", &q)
}

func TestP171Right(t *testing.T) {
	for i, q := range []api.Queue{
		{}, {Score: []int{}, Heap: []int{}}, {Score: []int{0}}, {Score: []int{0}, Heap: []int{0}}, {Score: []int{most}, Heap: []int{0}}, {Score: []int{most, 0}}, {Score: []int{7, 7}, Heap: []int{0, 1}}, {Score: []int{7, 8}, Heap: []int{1, 0}},
		{Score: []int{8, 7}, Heap: []int{0, 1}}, {Score: []int{1, 2, 3}, Heap: []int{1}}, {Score: []int{1, 2, 3}, Heap: []int{1, 0}}, {Score: []int{0, 0, 0}, Heap: []int{0, 2, 1}}, {Score: []int{0, 0, 0}, Heap: []int{0, 1, 2}}, {Score: []int{0, most, most}, Heap: []int{1, 0, 2}},
		// one further down may come ahead of one that isn't above it
		{Score: []int{9, 2, 8, 1, 1, 7, 6}, Heap: []int{0, 1, 2, 3, 4, 5, 6}}, {Score: []int{9, 8, 2, 7, 6, 1, 1}, Heap: []int{0, 1, 2, 3, 4, 5, 6}}, {Score: []int{9, 8, 2, 7, 6, 1, 1}, Heap: []int{0, 2, 1, 6, 5, 4, 3}},
		{Score: make([]int, 1<<20+1), Heap: []int{1 << 20}},
	} {
		if !queue.Right(q) {
			t.Errorf("%d is right", i)
		}
	}
}

func TestP171Wrong(t *testing.T) {
	for i, q := range []api.Queue{
		{Score: []int{-1}}, {Score: []int{math.MinInt}}, {Score: []int{most + 1}}, {Score: []int{math.MaxInt}}, {Score: []int{0, -1}, Heap: []int{0}}, {Score: []int{0, 0, most + 1}, Heap: []int{0, 1}}, {Score: []int{-1, -1}, Heap: []int{0, 1}},
		{Heap: []int{0}}, {Heap: []int{-1}}, {Score: []int{0}, Heap: []int{1}}, {Score: []int{0}, Heap: []int{-1}}, {Score: []int{0}, Heap: []int{0, 1}}, {Score: []int{0}, Heap: []int{math.MinInt}}, {Score: []int{0}, Heap: []int{math.MaxInt}},
		{Score: []int{0}, Heap: []int{0, 0}}, {Score: []int{0, 0}, Heap: []int{0, 1, 1}}, {Score: []int{0, 0, 0}, Heap: []int{0, 1, 1}}, {Score: []int{1, 0, 0, 0}, Heap: []int{0, 1, 2, 1}}, {Score: []int{5, 0}, Heap: []int{0, 1, 0}},
		{Score: []int{0, 0}, Heap: []int{1, 0}}, {Score: []int{0, 1}, Heap: []int{0, 1}}, {Score: []int{0, 1}, Heap: []int{0, 1}}, {Score: []int{most - 1, most}, Heap: []int{0, 1}}, {Score: []int{0, 0, 1}, Heap: []int{0, 1, 2}}, {Score: []int{0, 0, 0}, Heap: []int{1, 2, 0}},
	} {
		if queue.Right(q) {
			t.Errorf("%d: %v isn't right", i, q)
		}
	}
}

// Each place must come behind the one above it.
func TestP171WrongAtAPlace(t *testing.T) {
	for at := 1; at < 40; at++ {
		q := queue.New(40)
		for v := range 40 {
			q.Score[v] = 100 - v
		}
		above := (at - 1) / 2
		if q.Score[at] = q.Score[above]; !queue.Right(q) {
			t.Errorf("%d behind %d, of the same score", at, above)
		}
		if q.Score[at]++; queue.Right(q) {
			t.Errorf("%d ahead of %d", at, above)
		}
	}
}

func TestP171RightEach(t *testing.T) {
	rights := 0
	for n := range 5 {
		eachQueue(n, 3, func(q api.Queue) {
			was := copyOf(q)
			if queue.Right(q) != modelRight(q) {
				t.Fatalf("%v: right is %v", q, queue.Right(q))
			}
			stays(t, "Right", q, was)
			if modelRight(q) {
				rights++
			}
		})
	}
	if rights < 1000 {
		t.Errorf("%d are right", rights)
	}
}

func TestP172Push(t *testing.T) {
	q := queue.New(4)
	pops(t, "all", &q, 0, 1, 2, 3)
	for _, v := range []int{2, 0, 2, 3, 0} {
		if code := queue.Push(&q, v); code != api.OK || !queue.Right(q) || !queue.Has(q, v) {
			t.Errorf("%d: %v, %v", v, code, q)
		}
	}
	if len(q.Heap) != 3 || queue.Has(q, 1) {
		t.Errorf("%v", q)
	}
	pops(t, "three", &q, 0, 2, 3)
	for _, v := range []int{math.MinInt, -1, 4, 5, math.MaxInt} {
		if code := queue.Push(&q, v); code != api.ErrRange || len(q.Heap) > 0 {
			t.Errorf("%d: %v, %v", v, code, q)
		}
	}
	for _, v := range []int{-1, 0, 1} {
		empty := queue.New(0)
		if code := queue.Push(&empty, v); code != api.ErrRange {
			t.Errorf("%d of none: %v", v, code)
		}
	}
}

// One that comes in again does so with the score that it has by then.
func TestP172PushAgain(t *testing.T) {
	q := queue.New(3)
	queue.Bump(&q, 1, 5)
	pops(t, "first", &q, 1, 0, 2)
	queue.Bump(&q, 2, 6)
	for _, v := range []int{0, 1, 2} {
		queue.Push(&q, v)
	}
	pops(t, "then", &q, 2, 1, 0)
}

func TestP172Pop(t *testing.T) {
	for i, c := range []struct{ scores, want []int }{
		{nil, nil}, {[]int{0}, []int{0}}, {[]int{0, 1}, []int{1, 0}}, {[]int{1, 0}, []int{0, 1}}, {[]int{3, 3, 3}, []int{0, 1, 2}}, {[]int{0, 2, 1, 2, 0}, []int{1, 3, 2, 0, 4}}, {[]int{most, most - 1, most}, []int{0, 2, 1}},
		{[]int{1, 2, 3, 4, 5, 6, 7, 8}, []int{7, 6, 5, 4, 3, 2, 1, 0}}, {[]int{5, 1, 5, 1, 5, 1}, []int{0, 2, 4, 1, 3, 5}},
	} {
		q := queue.New(len(c.scores))
		for v, by := range c.scores {
			if code := queue.Bump(&q, v, by); code != api.OK || !queue.Right(q) {
				t.Errorf("%d: %v", i, code)
			}
		}
		pops(t, "all", &q, c.want...)
		if !slices.Equal(q.Score, c.scores) {
			t.Errorf("%d: %v", i, q.Score)
		}
	}
}

func TestP172Bump(t *testing.T) {
	for _, c := range []struct {
		score, v, by int
		want         api.Errno
	}{
		{0, 0, 0, api.OK}, {0, 0, 1, api.OK}, {0, 0, most, api.OK}, {1, 0, most - 1, api.OK}, {most, 0, 0, api.OK}, {most - 1, 0, 1, api.OK},
		{0, 0, most + 1, api.ErrOver}, {1, 0, most, api.ErrOver}, {most, 0, 1, api.ErrOver}, {most, 0, most, api.ErrOver}, {0, 0, math.MaxInt, api.ErrOver}, {1, 0, math.MaxInt, api.ErrOver}, {most, 0, math.MaxInt, api.ErrOver},
		{0, 0, -1, api.ErrArg}, {5, 0, -1, api.ErrArg}, {5, 0, -6, api.ErrArg}, {most, 0, math.MinInt, api.ErrArg},
		{0, -1, 1, api.ErrRange}, {0, 2, 1, api.ErrRange}, {0, math.MinInt, 0, api.ErrRange}, {0, math.MaxInt, 0, api.ErrRange}, {0, 2, -1, api.ErrRange}, {0, -1, math.MaxInt, api.ErrRange},
	} {
		for _, heap := range [][]int{{0, 1}, {0}, nil} {
			q := api.Queue{Score: []int{c.score, 0}, Heap: slices.Clone(heap)}
			if code := queue.Bump(&q, c.v, c.by); code != c.want {
				t.Errorf("%v: %v", c, code)
			}
			score := c.score
			if c.want == api.OK {
				score += c.by
			}
			stays(t, "Bump", q, api.Queue{Score: []int{score, 0}, Heap: heap})
		}
	}
}

// One that isn't in has a greater score, too, and stays out.
func TestP172BumpOut(t *testing.T) {
	q := api.Queue{Score: []int{3, 2, 1}, Heap: []int{1}}
	for v, by := range []int{0, 7, 9} {
		if code := queue.Bump(&q, v, by); code != api.OK {
			t.Error(code)
		}
	}
	stays(t, "Bump", q, api.Queue{Score: []int{3, 9, 10}, Heap: []int{1}})
}

func TestP172Halve(t *testing.T) {
	for _, c := range []struct{ scores, halves, want []int }{
		{nil, nil, nil}, {[]int{0, 1, 2, 3}, []int{0, 0, 1, 1}, []int{2, 3, 0, 1}}, {[]int{most, most - 1}, []int{most / 2, most/2 - 1}, []int{0, 1}},
		// what had another score has the same one now, so the least number is first
		{[]int{0, 1}, []int{0, 0}, []int{0, 1}}, {[]int{2, 3, 3}, []int{1, 1, 1}, []int{0, 1, 2}}, {[]int{4, 5, 6, 7, 6, 5, 4}, []int{2, 2, 3, 3, 3, 2, 2}, []int{2, 3, 4, 0, 1, 5, 6}},
	} {
		q := queue.New(len(c.scores))
		for v, by := range c.scores {
			queue.Bump(&q, v, by)
		}
		queue.Halve(&q)
		if !slices.Equal(q.Score, c.halves) || len(q.Heap) != len(c.scores) || !queue.Right(q) {
			t.Errorf("%v: %v", c.scores, q)
		}
		pops(t, "halves", &q, c.want...)
	}
}

// Those that aren't in are halved, too, and stay out.
func TestP172HalveOut(t *testing.T) {
	q := api.Queue{Score: []int{7, 1, 8, 9}, Heap: []int{3, 0}}
	queue.Halve(&q)
	stays(t, "Halve", q, api.Queue{Score: []int{3, 0, 4, 4}, Heap: []int{3, 0}})
	for range 70 {
		queue.Halve(&q)
	}
	stays(t, "Halve", q, api.Queue{Score: []int{0, 0, 0, 0}, Heap: []int{0, 3}})
}

func TestP172Has(t *testing.T) {
	q := api.Queue{Score: []int{4, 3, 9, 0}, Heap: []int{2, 1}}
	for v, want := range map[int]bool{math.MinInt: false, -1: false, 0: false, 1: true, 2: true, 3: false, 4: false, math.MaxInt: false} {
		if queue.Has(q, v) != want {
			t.Errorf("%d: %v", v, !want)
		}
	}
	if queue.Has(api.Queue{}, 0) {
		t.Error("nothing has 0")
	}
}
