package tables

import (
	"cmp"
	"slices"

	"sabretache/api"
)

const lastPoint = 0x10FFFF

// Merge answers spans of the same words: in order, none empty, and between each two a word that is in none.
func Merge(l []api.Span) []api.Span {
	var merged []api.Span
	for _, s := range rising(l) {
		n := len(merged)
		if n == 0 || isApart(merged[n-1], s) {
			merged = append(merged, s)
			continue
		}
		merged[n-1].Last = max(merged[n-1].Last, s.Last)
	}
	return merged
}

// Outside answers the points that are in none of the spans, merged.
func Outside(l []api.Span) []api.Span {
	var out []api.Span
	next := uint32(0)
	for _, s := range Merge(l) {
		if s.First > lastPoint {
			break
		}
		if next < s.First {
			out = append(out, api.Span{First: next, Last: s.First - 1})
		}
		// Nothing is left; and one more than the last word would be 0.
		if s.Last >= lastPoint {
			return out
		}
		next = s.Last + 1
	}
	return append(out, api.Span{First: next, Last: lastPoint})
}

// Union answers the words of all lists, merged.
func Union(l ...[]api.Span) []api.Span {
	return Merge(slices.Concat(l...))
}

// rising answers the spans that aren't empty, by their first words.
func rising(l []api.Span) []api.Span {
	some := slices.DeleteFunc(slices.Clone(l), func(s api.Span) bool { return s.First > s.Last })
	slices.SortFunc(some, func(a, b api.Span) int { return cmp.Compare(a.First, b.First) })
	return some
}

// isApart tells whether a word stands between both, of which the second one doesn't begin ahead of the first.
func isApart(ahead, s api.Span) bool {
	return s.First > ahead.Last && s.First-ahead.Last > 1
}
