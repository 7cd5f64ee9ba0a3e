package depend

import (
	"container/heap"
	"iter"
	"slices"
	"sort"

	"ostler/api"
)

// nodes are the nodes of a graph: the rules of a program, numbered from 0, followed by its predicates.
type nodes struct {
	rules  int
	sigs   []api.Sig
	number map[api.Sig]int
}

func list(p api.Prog) nodes {
	n := nodes{len(p.Rules), Sigs(p), map[api.Sig]int{}}
	for i, s := range n.sigs {
		n.number[s] = n.rules + i
	}
	return n
}

func (n nodes) count() int { return n.rules + len(n.sigs) }

func (n nodes) node(s api.Sig) int { return n.number[s] }

// sigsAmong returns the predicates among some nodes.
func (n nodes) sigsAmong(some []int) []api.Sig {
	var l []api.Sig
	for _, v := range some {
		if v >= n.rules {
			l = append(l, n.sigs[v-n.rules])
		}
	}
	return l
}

// graph is a dependency graph in which the edges of a rule pass through a node for the rule, so that it is as small as the program.
type graph struct {
	nodes
	next, back [][]int
}

func build(p api.Prog) graph {
	g := graph{nodes: list(p)}
	g.next, g.back = make([][]int, g.count()), make([][]int, g.count())
	for rule, r := range p.Rules {
		for _, h := range r.Heads {
			head := g.node(Of(h.Atom))
			g.connect(head, rule)
			if r.Kind != api.RuleChoice {
				g.connect(rule, head)
			}
			for s := range predicates(h.Cond...) {
				g.connect(head, g.node(s))
			}
		}
		for e := range ends(r.Body) {
			g.connect(rule, g.node(e.to))
		}
	}
	return g
}

func (g graph) connect(from, to int) {
	g.next[from] = append(g.next[from], to)
	g.back[to] = append(g.back[to], from)
}

// partition returns the component of each node, and the nodes of each component in increasing order. It follows Kosaraju and Sharir: what leads to the node that is finished last, and is not in a component yet, is its component.
func (g graph) partition() (home []int, members [][]int) {
	home = slices.Repeat([]int{-1}, g.count())
	for _, v := range slices.Backward(g.finished()) {
		if home[v] >= 0 {
			continue
		}
		home[v] = len(members)
		component := []int{v}
		for i := 0; i < len(component); i++ {
			for _, u := range g.back[component[i]] {
				if home[u] < 0 {
					home[u] = len(members)
					component = append(component, u)
				}
			}
		}
		slices.Sort(component)
		members = append(members, component)
	}
	return home, members
}

// finished returns the nodes in the order in which a depth-first search leaves them. The search keeps its own stack, because paths can be long.
func (g graph) finished() []int {
	var order, stack []int
	seen, followed := make([]bool, g.count()), make([]int, g.count())
	visit := func(v int) {
		if !seen[v] {
			seen[v] = true
			stack = append(stack, v)
		}
	}
	for start := range g.count() {
		visit(start)
		for len(stack) > 0 {
			v := stack[len(stack)-1]
			if followed[v] < len(g.next[v]) {
				followed[v]++
				visit(g.next[v][followed[v]-1])
				continue
			}
			stack = stack[:len(stack)-1]
			order = append(order, v)
		}
	}
	return order
}

// order yields the components such that edges lead to earlier ones, and otherwise by their first predicates. A component without predicates is a single rule, whose number is less than those of the predicates, so that it never keeps others waiting.
func (g graph) order(home []int, members [][]int) iter.Seq[int] {
	return func(yield func(int) bool) {
		waiting := g.leaving(home, len(members))
		ready := &queue{}
		release := func(i int) {
			if waiting[i] == 0 {
				heap.Push(ready, g.first(members[i]))
			}
		}
		for i := range members {
			release(i)
		}
		for ready.Len() > 0 {
			i := home[heap.Pop(ready).(int)]
			if !yield(i) {
				return
			}
			for _, v := range members[i] {
				for _, u := range g.back[v] {
					if home[u] != i {
						waiting[home[u]]--
						release(home[u])
					}
				}
			}
		}
	}
}

// leaving returns how many edges lead from each component to others.
func (g graph) leaving(home []int, count int) []int {
	edges := make([]int, count)
	for v, next := range g.next {
		for _, w := range next {
			if home[w] != home[v] {
				edges[home[v]]++
			}
		}
	}
	return edges
}

// first returns the first predicate of a component, or its rule if it has no predicate.
func (g graph) first(component []int) int {
	for _, v := range component {
		if v >= g.rules {
			return v
		}
	}
	return component[0]
}

// queue is a heap of numbers.
type queue struct{ sort.IntSlice }

func (q *queue) Push(x any) { q.IntSlice = append(q.IntSlice, x.(int)) }

func (q *queue) Pop() any {
	last := q.Len() - 1
	x := q.IntSlice[last]
	q.IntSlice = q.IntSlice[:last]
	return x
}
