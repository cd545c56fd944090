package eval

import (
	"iter"
	"math"
)

// knots tells which of numbered things lead to themselves again, each being led to others, and in which order they can be done (Tarjan's way).
type knots struct {
	next  func(i int) []int // what each leads to at once
	met   int               // how many were met
	order []int             // which each was of those that were met, from 1 on; 0 is none yet
	back  []int             // the first of those on the stack that each is known to lead to, by its order
	tied  []bool            // leads to itself
	stack []int             // what was met, and may still lead to itself
}

// off is the back of what is not on the stack any more: it leads to nothing that still is.
const off = math.MaxInt

func newKnots(count int, next func(i int) []int) *knots {
	return &knots{next: next, order: make([]int, count), back: make([]int, count), tied: make([]bool, count)}
}

// from hands out i and all that it leads to, but for what an earlier call handed out: in groups of such as lead to one another, each behind the groups that it leads to. All of them must be taken.
func (k *knots) from(i int) iter.Seq[[]int] {
	return func(yield func([]int) bool) {
		if k.order[i] == 0 {
			k.visit(i, yield)
		}
	}
}

// visit hands out the groups that i leads to, and its own, if i is the first of it. False: no more are taken.
func (k *knots) visit(i int, yield func([]int) bool) bool {
	k.met++
	k.order[i], k.back[i] = k.met, k.met
	begin := len(k.stack)
	k.stack = append(k.stack, i)
	for _, j := range k.next(i) {
		if k.order[j] == 0 && !k.visit(j, yield) {
			return false
		}
		k.tied[i] = k.tied[i] || j == i
		k.back[i] = min(k.back[i], k.back[j])
	}
	return k.back[i] < k.order[i] || yield(k.cut(begin))
}

// cut takes a group off the stack. Neither has room behind it, so that what is put on the stack later is not written over what was handed out.
func (k *knots) cut(begin int) []int {
	end := len(k.stack)
	group := k.stack[begin:end:end]
	k.stack = k.stack[:begin:begin]
	for _, i := range group {
		k.back[i] = off
		k.tied[i] = k.tied[i] || len(group) > 1
	}
	return group
}
