package finite

import "container/heap"

// bounds are the bounds of variables for a ranking. Minus infinity is math.MinInt, or not much more where depths were added to it. A variable gets its bound by the least of the offers that are left: what an equation offers later is no less, because it is at least the bound of each variable that the equation waited for.
type bounds struct {
	ranks   []int
	known   map[string]int
	offers  offers
	waiting map[string][]func()
}

// bounds returns the bounds of the variables that have one.
func (c clause) bounds(ranks []int) map[string]int {
	b := &bounds{ranks: ranks, known: map[string]int{}, waiting: map[string][]func(){}}
	for _, s := range c.steps {
		s(b)
	}
	for b.offers.Len() > 0 {
		b.accept(heap.Pop(&b.offers).(offer))
	}
	return b.known
}

func (b *bounds) offer(name string, bound int) {
	heap.Push(&b.offers, offer{name, bound})
}

func (b *bounds) accept(o offer) {
	if _, ok := b.known[o.name]; ok {
		return
	}
	b.known[o.name] = o.bound
	for _, resume := range b.waiting[o.name] {
		resume()
	}
}

// solve offers what an equation gives to a variable: the given number, or more by the occurrences of other variables. It waits for one of these at a time, so that each of them is examined once.
func (b *bounds) solve(name string, others []occurrence, bound int) {
	for i, o := range others {
		other, ok := b.known[o.name]
		if !ok {
			b.waiting[o.name] = append(b.waiting[o.name], func() { b.solve(name, others[i:], bound) })
			return
		}
		bound = max(bound, o.depth+other)
	}
	b.offer(name, bound)
}

// offer is a number that may be the bound of a variable.
type offer struct {
	name  string
	bound int
}

// offers is a heap of offers, the least one first.
type offers []offer

func (l offers) Len() int { return len(l) }

func (l offers) Less(i, k int) bool { return l[i].bound < l[k].bound }

func (l offers) Swap(i, k int) { l[i], l[k] = l[k], l[i] }

func (l *offers) Push(x any) { *l = append(*l, x.(offer)) }

func (l *offers) Pop() any {
	last := len(*l) - 1
	x := (*l)[last]
	*l = (*l)[:last]
	return x
}
