// Package rows looks at rows of an arena's words ahead of work on them, for all layers that are given places.
package rows

import (
	"cmp"
	"slices"

	"sabretache/arena"
)

// Row is N words of an arena from At on.
type Row struct {
	At, N int
}

// Of answers the rows of n words from each of the places on.
func Of(n int, places ...int) []Row {
	rows := make([]Row, len(places))
	for i, at := range places {
		rows[i] = Row{At: at, N: n}
	}
	return rows
}

// Apart tells whether all rows are within the arena, and no two of them have a word in common.
func Apart(a *arena.Arena, rows ...Row) bool {
	var some []Row
	for _, r := range rows {
		if !a.Fits(r.At, r.N) {
			return false
		}
		// A row of no words has none in common, even in the midst of another.
		if r.N > 0 {
			some = append(some, r)
		}
	}
	slices.SortFunc(some, func(r, s Row) int { return cmp.Compare(r.At, s.At) })
	for i := 1; i < len(some); i++ {
		if some[i].At-some[i-1].At < some[i-1].N {
			return false
		}
	}
	return true
}
