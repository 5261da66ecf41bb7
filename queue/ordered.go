package queue

import "steelyard/api"

// ordered is a queue as container/heap takes it: its first one is the least.
type ordered struct{ *api.Queue }

// Len tells how many are in.
func (o ordered) Len() int { return len(o.Heap) }

// Less tells whether the unknown at a place comes ahead of that at another one.
func (o ordered) Less(i, j int) bool {
	v, w := o.Heap[i], o.Heap[j]
	first, second := o.score(v), o.score(w)
	return first > second || first == second && v < w
}

// Swap lets two unknowns change places.
func (o ordered) Swap(i, j int) { o.Heap[i], o.Heap[j] = o.Heap[j], o.Heap[i] }

// Push puts an unknown behind the others.
func (o ordered) Push(x any) {
	if v, ok := x.(int); ok {
		o.Heap = append(o.Heap, v)
	}
}

// Pop takes the unknown at the last place out.
func (o ordered) Pop() any {
	last := len(o.Heap) - 1
	v := o.Heap[last]
	o.Heap = o.Heap[:last]
	return v
}

// score gives an unknown's score; of one that there isn't, as may stand in a queue that isn't right, 0.
func (o ordered) score(v int) int {
	if !isUnknown(*o.Queue, v) {
		return 0
	}
	return o.Score[v]
}
