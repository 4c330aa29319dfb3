package tables_test

import (
	"math"
	"math/rand"
	"slices"
	"testing"

	"sabretache/api"
	"sabretache/tables"
)

const (
	lastPoint = uint32(0x10FFFF)
	top       = uint32(math.MaxUint32)
)

func span(first, last uint32) api.Span {
	return api.Span{First: first, Last: last}
}

func has(l []api.Span, x uint32) bool {
	return slices.ContainsFunc(l, func(s api.Span) bool { return s.First <= x && x <= s.Last })
}

// isMerged looks at what may not be among merged spans, by numbers that have room for all.
func isMerged(l []api.Span) bool {
	for i, s := range l {
		if s.First > s.Last || i > 0 && uint64(s.First) < uint64(l[i-1].Last)+2 {
			return false
		}
	}
	return true
}

// holds tells whether spans are merged, and are of the words that are wanted. What words are in changes at an end of a span alone, so that it looks at both sides of each end.
func holds(t *testing.T, call string, got []api.Span, given []api.Span, want func(x uint32) bool) {
	t.Helper()
	if !isMerged(got) {
		t.Errorf("%s of %x isn't merged: %x", call, given, got)
	}
	words := []uint32{0, lastPoint, lastPoint + 1, top}
	for _, s := range slices.Concat(given, got) {
		words = append(words, s.First-1, s.First, s.First+1, s.Last-1, s.Last, s.Last+1)
	}
	for _, x := range words {
		if has(got, x) != want(x) {
			t.Errorf("%s of %x is %x, which is wrong at %x", call, given, got, x)
		}
	}
}

func checkSpans(t *testing.T, l []api.Span) {
	t.Helper()
	holds(t, "Merge", tables.Merge(l), l, func(x uint32) bool { return has(l, x) })
	holds(t, "Outside", tables.Outside(l), l, func(x uint32) bool { return x <= lastPoint && !has(l, x) })
	for i := range len(l) + 1 {
		holds(t, "Union", tables.Union(l[:i], l[i:]), l, func(x uint32) bool { return has(l, x) })
	}
}

func TestMerge(t *testing.T) {
	for _, c := range []struct{ l, want []api.Span }{
		{nil, nil},
		{[]api.Span{}, nil},
		{[]api.Span{span(2, 1)}, nil},
		{[]api.Span{span(top, 0)}, nil},
		{[]api.Span{span(0, 0)}, []api.Span{span(0, 0)}},
		{[]api.Span{span(top, top)}, []api.Span{span(top, top)}},
		{[]api.Span{span(0, top)}, []api.Span{span(0, top)}},
		{[]api.Span{span(0, top), span(0, 0), span(top, top)}, []api.Span{span(0, top)}},
		{[]api.Span{span(top, top), span(0, 0)}, []api.Span{span(0, 0), span(top, top)}},
		{[]api.Span{span(top, top), span(0, top-1)}, []api.Span{span(0, top)}},
		{[]api.Span{span(top, top), span(0, top-2)}, []api.Span{span(0, top-2), span(top, top)}},
		{[]api.Span{span(5, 9), span(5, 9)}, []api.Span{span(5, 9)}},
		{[]api.Span{span(5, 9), span(6, 8)}, []api.Span{span(5, 9)}},
		{[]api.Span{span(5, 9), span(9, 12)}, []api.Span{span(5, 12)}},
		{[]api.Span{span(5, 9), span(10, 12)}, []api.Span{span(5, 12)}},
		{[]api.Span{span(10, 12), span(5, 9)}, []api.Span{span(5, 12)}},
		{[]api.Span{span(5, 9), span(11, 12)}, []api.Span{span(5, 9), span(11, 12)}},
		{[]api.Span{span(5, 9), span(10, 9), span(11, 12)}, []api.Span{span(5, 9), span(11, 12)}},
		{[]api.Span{span(5, 20), span(6, 7), span(21, 21)}, []api.Span{span(5, 21)}},
		{[]api.Span{span(1, 1), span(3, 3), span(5, 5), span(2, 2)}, []api.Span{span(1, 3), span(5, 5)}},
	} {
		if got := tables.Merge(c.l); !slices.Equal(got, c.want) {
			t.Errorf("Merge(%x) = %x, not %x", c.l, got, c.want)
		}
		checkSpans(t, c.l)
	}
}

func TestOutside(t *testing.T) {
	all := []api.Span{span(0, lastPoint)}
	for _, c := range []struct{ l, want []api.Span }{
		{nil, all},
		{[]api.Span{}, all},
		{[]api.Span{span(1, 0), span(lastPoint, 0)}, all},
		{all, nil},
		{[]api.Span{span(0, top)}, nil},
		{[]api.Span{span(0, lastPoint-1)}, []api.Span{span(lastPoint, lastPoint)}},
		{[]api.Span{span(1, lastPoint)}, []api.Span{span(0, 0)}},
		{[]api.Span{span(1, top)}, []api.Span{span(0, 0)}},
		{[]api.Span{span(1, lastPoint-1)}, []api.Span{span(0, 0), span(lastPoint, lastPoint)}},
		{[]api.Span{span(0, 0), span(lastPoint, lastPoint)}, []api.Span{span(1, lastPoint-1)}},
		{[]api.Span{span(lastPoint, top)}, []api.Span{span(0, lastPoint-1)}},
		{[]api.Span{span(lastPoint+1, top)}, all},
		{[]api.Span{span(lastPoint+2, top)}, all},
		{[]api.Span{span(top, top)}, all},
		{[]api.Span{span(20, 29), span(10, 19), span(40, 40), span(lastPoint+5, lastPoint+9)}, []api.Span{span(0, 9), span(30, 39), span(41, lastPoint)}},
	} {
		if got := tables.Outside(c.l); !slices.Equal(got, c.want) {
			t.Errorf("Outside(%x) = %x, not %x", c.l, got, c.want)
		}
		checkSpans(t, c.l)
	}
}

func TestUnion(t *testing.T) {
	for _, c := range []struct {
		l    [][]api.Span
		want []api.Span
	}{
		{nil, nil},
		{[][]api.Span{nil, {}, {span(3, 2)}}, nil},
		{[][]api.Span{{span(5, 9)}}, []api.Span{span(5, 9)}},
		{[][]api.Span{{span(7, 9), span(5, 6)}}, []api.Span{span(5, 9)}},
		{[][]api.Span{{span(5, 9), span(20, 29)}, nil, {span(10, 12), span(28, top)}, {span(0, 3)}}, []api.Span{span(0, 3), span(5, 12), span(20, top)}},
		{[][]api.Span{{span(5, 9)}, {span(5, 9)}, {span(5, 9)}}, []api.Span{span(5, 9)}},
	} {
		if got := tables.Union(c.l...); !slices.Equal(got, c.want) {
			t.Errorf("Union(%x) = %x, not %x", c.l, got, c.want)
		}
	}
}

// All lists of up to three spans of few words that stand together, from both ends of all words and where points end.
func TestAllSpansOfFewWords(t *testing.T) {
	for _, from := range []uint32{0, lastPoint - 2, top - 4} {
		var spans []api.Span
		for i := range uint32(5) {
			for j := range uint32(5) {
				spans = append(spans, span(from+i, from+j))
			}
		}
		for _, a := range spans {
			checkSpans(t, []api.Span{a})
			for _, b := range spans {
				checkSpans(t, []api.Span{a, b})
				if from == lastPoint-2 {
					checkSpans(t, []api.Span{b, span(from+2, from+2), a})
				}
			}
		}
	}
}

func TestManySpans(t *testing.T) {
	r := rand.New(rand.NewSource(8))
	word := func() uint32 {
		return []uint32{0, lastPoint - 20, top - 40}[r.Intn(3)] + uint32(r.Intn(41))
	}
	for range 3000 {
		l := make([]api.Span, r.Intn(12))
		for i := range l {
			first := word()
			l[i] = span(first, first+uint32(r.Intn(4))-1)
			if r.Intn(6) == 0 {
				l[i].Last = word()
			}
		}
		checkSpans(t, l)
	}
}

func TestManyListsAreUnited(t *testing.T) {
	r := rand.New(rand.NewSource(9))
	for range 500 {
		lists := make([][]api.Span, r.Intn(6))
		for i := range lists {
			for range r.Intn(5) {
				first := uint32(r.Intn(60))
				lists[i] = append(lists[i], span(first, first+uint32(r.Intn(5))-1))
			}
		}
		all := slices.Concat(lists...)
		holds(t, "Union", tables.Union(lists...), all, func(x uint32) bool { return has(all, x) })
	}
}

func TestSpansThatAreGivenStayAsTheyAre(t *testing.T) {
	given := []api.Span{span(30, 39), span(9, 5), span(5, 9), span(10, 19)}
	l := append(make([]api.Span, 0, 16), given...)
	rest := l[len(l):cap(l)]
	tables.Merge(l)
	tables.Outside(l)
	tables.Union(l[:2], l[2:])
	tables.Union(l[:2])
	if !slices.Equal(l, given) || slices.ContainsFunc(rest, func(s api.Span) bool { return s != api.Span{} }) {
		t.Errorf("the spans have become %x, and %x behind them", l, rest)
	}
}

func TestSpansThatAreAnsweredAreTheCallersOwn(t *testing.T) {
	for name, call := range map[string]func(l []api.Span) []api.Span{
		"Merge": tables.Merge,
		"Union": func(l []api.Span) []api.Span { return tables.Union(l) },
	} {
		l := append(make([]api.Span, 0, 8), span(1, 2), span(5, 6))
		got := call(l)
		got[0], got = span(7, 7), append(got, span(8, 8))
		if !slices.Equal(l, []api.Span{span(1, 2), span(5, 6)}) || l[:3][2] != (api.Span{}) {
			t.Errorf("what %s answers is what it was given: %x", name, l[:3])
		}
		l[1] = span(9, 9)
		if got[1] != span(5, 6) {
			t.Errorf("what %s answered has become %x", name, got)
		}
	}
}
