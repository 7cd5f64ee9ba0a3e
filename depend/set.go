package depend

// set is a set of predicates, edges or ends of edges.
type set[T comparable] map[T]bool

func (s set[T]) add(items ...T) {
	for _, x := range items {
		s[x] = true
	}
}

func (s set[T]) has(x T) bool { return s[x] }
