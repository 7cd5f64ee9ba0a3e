package finite

import (
	"slices"
	"testing"
)

// TestGreatRanks checks that no rank is greater than MaxRank. No term within the limits of a program is deep enough to take the program there, so the clauses are made by hand.
func TestGreatRanks(t *testing.T) {
	reads := func(place int) []step { return []step{func(b *bounds) { b.offer("X", b.ranks[place]) }} }
	for _, c := range []struct {
		first, second int
		want          bool
	}{{1 << 29, 1 << 29, true}, {1 << 29, 1<<29 + 1, false}, {MaxRank, 0, true}, {0, MaxRank, true}, {MaxRank, 1, false}, {0, MaxRank + 1, false}} {
		s := solver{places{}, make([]int, 3)}
		groups := [][]clause{
			{{steps: reads(0), reads: []int{0}, demands: []demand{{1, "X", c.first}}}},
			{{steps: reads(1), reads: []int{1}, demands: []demand{{2, "X", c.second}}}},
		}
		if got := s.settle(groups[0]) && s.settle(groups[1]); got != c.want {
			t.Errorf("%+v: %v", c, got)
		}
		if want := []int{0, c.first, c.first + c.second}; c.want && !slices.Equal(s.ranks, want) {
			t.Errorf("%+v: %v", c, s.ranks)
		}
	}
}
