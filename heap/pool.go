package heap

import (
	"container/heap"
	"iter"
)

// pool numbers things from 0 on: a new one takes the lowest number that is free.
type pool[T any] struct {
	cells []cell[T]
	// free holds every free number below len(cells), and perhaps some that trim has cut off.
	free  numbers
	count int
}

type cell[T any] struct {
	thing T
	used  bool
}

func (p *pool[T]) has(n int) bool {
	return n >= 0 && n < len(p.cells) && p.cells[n].used
}

func (p *pool[T]) get(n int) (T, bool) {
	if !p.has(n) {
		var none T
		return none, false
	}
	return p.cells[n].thing, true
}

func (p *pool[T]) add(thing T) int {
	n := p.lowest()
	p.cells[n] = cell[T]{thing, true}
	p.count++
	return n
}

// set and drop are asked only for numbers in use.
func (p *pool[T]) set(n int, thing T) { p.cells[n].thing = thing }

func (p *pool[T]) drop(n int) {
	p.cells[n] = cell[T]{}
	p.count--
	if n == len(p.cells)-1 {
		p.trim()
		return
	}
	heap.Push(&p.free, n)
}

// all gives the things in use by their numbers, the lowest first. What is given may be dropped or set meanwhile.
func (p *pool[T]) all() iter.Seq2[int, T] {
	return func(yield func(int, T) bool) {
		// The range goes over the cells as long as they are now, so that a trim meanwhile does no harm.
		for n, c := range p.cells {
			if c.used && !yield(n, c.thing) {
				return
			}
		}
	}
}

// lowest tells the lowest free number, and sees to it that it has a cell.
func (p *pool[T]) lowest() int {
	if len(p.free) > 0 && p.free[0] < len(p.cells) {
		return heap.Pop(&p.free).(int)
	}
	// What is left is cut off: it may not come back as free when the cells grow over it.
	p.free = p.free[:0]
	p.cells = append(p.cells, cell[T]{})
	return len(p.cells) - 1
}

// trim cuts off the free cells at the end, so that a collection doesn't go through what was in use long ago.
func (p *pool[T]) trim() {
	end := len(p.cells)
	for end > 0 && !p.cells[end-1].used {
		end--
	}
	p.cells = p.cells[:end]
}

// numbers is a heap in the sense of container/heap: the least number comes first.
type numbers []int

func (l numbers) Len() int           { return len(l) }
func (l numbers) Less(i, j int) bool { return l[i] < l[j] }
func (l numbers) Swap(i, j int)      { l[i], l[j] = l[j], l[i] }
func (l *numbers) Push(n any)        { *l = append(*l, n.(int)) }

func (l *numbers) Pop() any {
	last := len(*l) - 1
	n := (*l)[last]
	*l = (*l)[:last]
	return n
}
