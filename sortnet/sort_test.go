package sortnet_test

import (
	"cmp"
	"math"
	"math/rand"
	"slices"
	"testing"

	"sabretache/api"
	"sabretache/arena"
	"sabretache/ct"
	"sabretache/sortnet"
)

// tuples answers what stands at each number in the lanes.
func tuples(words []uint32, n int, lanes []int) [][]uint32 {
	rows := make([][]uint32, n)
	for i := range rows {
		for _, lane := range lanes {
			rows[i] = append(rows[i], words[lane+i])
		}
	}
	return rows
}

func rises(rows [][]uint32) bool {
	return slices.IsSortedFunc(rows, func(x, y []uint32) int {
		return cmp.Or(cmp.Compare(x[0], y[0]), cmp.Compare(x[1], y[1]))
	})
}

// sameTuples holds that each tuple is there as often as before, and whole.
func sameTuples(x, y [][]uint32) bool {
	x, y = slices.Clone(x), slices.Clone(y)
	slices.SortFunc(x, slices.Compare)
	slices.SortFunc(y, slices.Compare)
	return slices.EqualFunc(x, y, slices.Equal)
}

// expectSorted sorts, and holds words in no lane, tuples, their order, and what was noted, against what they should be.
func expectSorted(t *testing.T, words []uint32, n int, lanes ...int) {
	t.Helper()
	a := filled(t, words)
	handed := slices.Clone(lanes)
	ok, events := behind(a, n, lanes...)
	if !ok || !slices.Equal(lanes, handed) {
		t.Fatalf("Sort of %d, %v: %v", n, handed, ok)
	}
	if want := sortnet.Cost(n, len(lanes)); len(events) != want || want != len(sortnet.Pairs(n))*4*len(lanes) {
		t.Errorf("Sort of %d, %v: %d events, Cost %d", n, lanes, len(events), want)
	}
	got := a.Show(0, len(words))
	before, after := tuples(words, n, lanes), tuples(got, n, lanes)
	if !rises(after) || !sameTuples(before, after) {
		t.Errorf("Sort of %d, %v: %v became %v", n, lanes, before, after)
	}
	for at := range got {
		out := !slices.ContainsFunc(lanes, func(lane int) bool { return at >= lane && at < lane+n })
		if out && got[at] != words[at] {
			t.Errorf("Sort of %d, %v: the word at %d, in no lane, is %d, was %d", n, lanes, at, got[at], words[at])
		}
	}
}

func TestSortByTwoLanes(t *testing.T) {
	a := filled(t, []uint32{3, 1, 3, 2, 1, 5, 9, 4, 0, 8, 10, 11, 12, 13, 14})
	ok, events := behind(a, 5, 0, 5, 10)
	if !ok || len(events) != 108 {
		t.Error(ok, len(events))
	}
	if got := a.Show(0, 15); !slices.Equal(got, []uint32{1, 1, 2, 3, 3, 8, 9, 0, 4, 5, 14, 11, 13, 12, 10}) {
		t.Error(got)
	}
}

// TestTheFirstLaneIsTheFirstGiven holds that lanes count by how they are given, and not by where they stand.
func TestTheFirstLaneIsTheFirstGiven(t *testing.T) {
	words := []uint32{1, 2, 3, 9, 8, 8, 7, 6, 5}
	for _, c := range []struct {
		lanes []int
		want  []uint32
	}{
		{[]int{0, 3, 6}, []uint32{1, 2, 3, 9, 8, 8, 7, 6, 5}},
		{[]int{3, 0, 6}, []uint32{2, 3, 1, 8, 8, 9, 6, 5, 7}},
		{[]int{3, 6, 0}, []uint32{3, 2, 1, 8, 8, 9, 5, 6, 7}},
		{[]int{6, 3}, []uint32{1, 2, 3, 8, 8, 9, 5, 6, 7}},
	} {
		a := filled(t, words)
		if ok := sortnet.Sort(a, 3, c.lanes...); !ok {
			t.Error(c.lanes)
		}
		if got := a.Show(0, 9); !slices.Equal(got, c.want) {
			t.Errorf("by %v: %v, want %v", c.lanes, got, c.want)
		}
	}
}

// TestWordsWithoutASign holds that words are numbers from 0 up to 2^32 - 1.
func TestWordsWithoutASign(t *testing.T) {
	a := filled(t, []uint32{math.MaxUint32, 1 << 31, 1<<31 - 1, 0, 0, 1, 2, 3})
	if !sortnet.Sort(a, 4, 0, 4) || !slices.Equal(a.Show(0, 8), []uint32{0, 1<<31 - 1, 1 << 31, math.MaxUint32, 3, 2, 1, 0}) {
		t.Error("first lane", a.Show(0, 8))
	}
	b := filled(t, []uint32{7, 7, 7, 7, math.MaxUint32, 1 << 31, 1<<31 - 1, 0})
	if !sortnet.Sort(b, 4, 0, 4) || !slices.Equal(b.Show(4, 4), []uint32{0, 1<<31 - 1, 1 << 31, math.MaxUint32}) {
		t.Error("second lane", b.Show(0, 8))
	}
}

func TestSortOfDrawnWords(t *testing.T) {
	draw := rand.New(rand.NewSource(5))
	for range 400 {
		n, gap := draw.Intn(40), draw.Intn(3)
		lanes := make([]int, 2+draw.Intn(4))
		for i, at := range draw.Perm(len(lanes)) {
			lanes[i] = gap + at*(n+gap)
		}
		words := drawn(draw, gap+len(lanes)*(n+gap), []int{2, 4, 1000, 1 << 32}[draw.Intn(4)])
		expectSorted(t, words, n, lanes...)
	}
}

func TestSortOfTheMost(t *testing.T) {
	draw := rand.New(rand.NewSource(6))
	words := drawn(draw, 2*most+2, 3000)
	expectSorted(t, words, most, most+1, 1)
	a := filled(t, make([]uint32, 2*most+2))
	if ok, events := behind(a, most+1, 0, most+1); ok || len(events) != 0 {
		t.Error("more than the most", ok, len(events))
	}
}

func TestSortOfNoneAndOne(t *testing.T) {
	a := filled(t, []uint32{5, 6, 7, 8})
	for _, c := range []struct {
		n     int
		lanes []int
		want  bool
	}{
		{0, []int{0, 1}, true}, {0, []int{3, 3}, true}, {0, []int{4, 4, 4}, true}, {0, []int{4, 0}, true}, {0, []int{0, 5}, false}, {0, []int{-1, 0}, false}, {0, []int{4}, false}, {0, nil, false},
		{1, []int{0, 1}, true}, {1, []int{3, 0, 1}, true}, {1, []int{2, 2}, false}, {1, []int{0, 3, 0}, false}, {1, []int{0, 4}, false}, {1, []int{0}, false},
	} {
		if ok, events := behind(a, c.n, c.lanes...); ok != c.want || len(events) != 0 {
			t.Errorf("Sort of %d, %v: %v, %d events", c.n, c.lanes, ok, len(events))
		}
	}
	if got := a.Show(0, 4); !slices.Equal(got, []uint32{5, 6, 7, 8}) {
		t.Error(got)
	}
}

func TestSortRefuses(t *testing.T) {
	words := []uint32{9, 8, 7, 6, 5, 4, 3, 2, 1, 0}
	a := filled(t, words)
	expectRefused := func(n int, lanes ...int) {
		t.Helper()
		if ok, events := behind(a, n, lanes...); ok || len(events) != 0 {
			t.Errorf("Sort of %d, %v: %v, %d events", n, lanes, ok, len(events))
		}
	}
	for _, n := range wrong {
		expectRefused(n, 0, 5)
		expectRefused(2, 0, n)
		expectRefused(2, n, 0)
		expectRefused(2, 0, 5, n)
		expectRefused(0, n, n)
		expectRefused(n, n, 0)
	}
	for n := range 6 {
		expectRefused(n)
		expectRefused(n, 0)
	}
	for _, lanes := range [][]int{{0, 4}, {4, 0}, {0, 0}, {0, 6}, {6, 0}, {0, 5, 9}, {0, 5, 4}, {5, 1}, {0, 10}, {-1, 5}, {4, 5}, {0, 5, 0}} {
		expectRefused(5, lanes...)
	}
	for _, lanes := range [][]int{{0, 3, 4}, {0, 2, 4, 6, 7}, {0, 8, 1}, {2, 6, 0, 3}, {0, 9}, {4, 2, 0, 2}} {
		expectRefused(2, lanes...)
	}
	if got := a.Show(0, 10); !slices.Equal(got, words) {
		t.Errorf("%v became %v", words, got)
	}
	if !sortnet.Sort(a, 5, 5, 0) || !sortnet.Sort(a, 2, 0, 2, 8, 6, 4) {
		t.Error("lanes side by side")
	}
}

// TestWordsThatAreNotTaken holds that a lane stands among the taken words, and not among all.
func TestWordsThatAreNotTaken(t *testing.T) {
	a := arena.New(20)
	a.Take(9)
	if ok, events := behind(a, 5, 0, 5); ok || len(events) != 0 {
		t.Error("one isn't taken", ok, events)
	}
	a.Take(1)
	if ok, _ := behind(a, 5, 0, 5); !ok {
		t.Error("all are taken")
	}
	a.Give(9)
	if ok, _ := behind(a, 5, 0, 5); ok {
		t.Error("one is given back")
	}
}

func TestSortOfNoArena(t *testing.T) {
	for _, n := range append([]int{0, 1, 2}, wrong...) {
		if sortnet.Sort(nil, n, 0, 0) || sortnet.Sort(nil, n) || sortnet.Sort(nil, n, 0, 5, 10) {
			t.Error("of nil", n)
		}
	}
	if !sortnet.Sort(arena.New(0), 0, 0, 0) || sortnet.Sort(arena.New(0), 1, 0, 0) {
		t.Error("of no words")
	}
}

// TestTheSameEventsOfOtherWords is of P3.3.
func TestTheSameEventsOfOtherWords(t *testing.T) {
	draw := rand.New(rand.NewSource(7))
	for _, n := range []int{2, 3, 5, 8, 13, 64, 100} {
		lanes := []int{2 * n, 0, n}
		rising, falling := make([]uint32, 3*n), make([]uint32, 3*n)
		for i := range rising {
			rising[i], falling[i] = uint32(i), math.MaxUint32-uint32(i)
		}
		_, want := behind(filled(t, make([]uint32, 3*n)), n, lanes...)
		if len(want) != sortnet.Cost(n, 3) {
			t.Errorf("%d words: %d events", n, len(want))
		}
		for i, words := range [][]uint32{rising, falling, drawn(draw, 3*n, 2), drawn(draw, 3*n, 1<<32), slices.Repeat([]uint32{math.MaxUint32}, 3*n)} {
			if ok, got := behind(filled(t, words), n, lanes...); !ok || !slices.Equal(got, want) {
				t.Errorf("%d words, list %d: other events", n, i)
			}
		}
	}
}

// TestWhatSortNotes holds that words are read and written, in equal parts, in the lanes alone, and that none is told.
func TestWhatSortNotes(t *testing.T) {
	a := filled(t, []uint32{9, 4, 4, 4, 9, 3, 2, 1, 9})
	_, events := behind(a, 3, 5, 1)
	counts := map[int]int{}
	for _, e := range events {
		counts[e.Kind]++
		if e.Index < 1 || e.Index > 7 || e.Index == 4 {
			t.Errorf("a word in no lane: %v", e)
		}
	}
	if len(counts) != 2 || counts[api.Load] != 12 || counts[api.Store] != 12 {
		t.Errorf("events %v", counts)
	}
	if ct.NewLog().Release(a.Load(5)) != 1 || a.Top() != 9 || a.Size() != 9 {
		t.Error("not sorted, or words taken")
	}
}
