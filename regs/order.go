package regs

import (
	"cmp"
	"container/heap"
)

// waiting is a value that is not put off yet, and how many others it met that were not when it was put here.
type waiting struct{ value, others int }

// queue has the one first that meets the fewest others; of several the lowest value.
type queue []waiting

func (q queue) Len() int { return len(q) }

func (q queue) Less(i, j int) bool {
	return cmp.Or(cmp.Compare(q[i].others, q[j].others), cmp.Compare(q[i].value, q[j].value)) < 0
}

func (q queue) Swap(i, j int) { q[i], q[j] = q[j], q[i] }

func (q *queue) Push(x any) { *q = append(*q, x.(waiting)) }

func (q *queue) Pop() any {
	last := len(*q) - 1
	x := (*q)[last]
	*q = (*q)[:last]
	return x
}

// putOff are all values, each time that one first that meets the fewest of those that are left.
func putOff(others [][]int) []int {
	left := make([]int, len(others)) // of each value how many of those that it meets are left; below 0: it is put off
	var q queue
	for v := range others {
		left[v] = len(others[v])
		q = append(q, waiting{v, left[v]})
	}
	heap.Init(&q)
	var order []int
	for len(q) > 0 {
		x := heap.Pop(&q).(waiting)
		if left[x.value] != x.others { // it is in the queue once more, with fewer
			continue
		}
		order = append(order, x.value)
		left[x.value] = -1
		for _, w := range others[x.value] {
			if left[w] > 0 {
				left[w]--
				heap.Push(&q, waiting{w, left[w]})
			}
		}
	}
	return order
}
