package pack_test

import (
	"math"
	"math/rand"
	"slices"
	"testing"

	"sabretache/api"
	"sabretache/arena"
	"sabretache/ct"
	"sabretache/pack"
)

const (
	most = 49152
	yes  = uint32(math.MaxUint32)
)

// filled has these words taken, and as many more to be taken.
func filled(t *testing.T, words []uint32, more int) *arena.Arena {
	t.Helper()
	a := arena.New(len(words) + more)
	if _, ok := a.Take(len(words)); !ok || !a.Put(0, words) {
		t.Fatalf("no arena of %d words and %d more", len(words), more)
	}
	return a
}

func value(s ct.Sec) uint32 {
	return ct.NewLog().Release(s)
}

// packed is what is to be behind Pack: words in no lane as they were, those of each lane picked one by one.
func packed(words []uint32, keep, n int, lanes []int) ([]uint32, uint32) {
	want := slices.Clone(words)
	for _, lane := range append([]int{keep}, lanes...) {
		clear(want[lane : lane+n])
	}
	kept := 0
	for i := range n {
		if words[keep+i]%2 == 0 {
			continue
		}
		want[keep+kept] = yes
		for _, lane := range lanes {
			want[lane+kept] = words[lane+i]
		}
		kept++
	}
	return want, uint32(kept)
}

// expectPacked packs, with just as much room as is asked for, and holds all words, the answer and what was noted against what they should be.
func expectPacked(t *testing.T, words []uint32, keep, n int, lanes ...int) []api.Event {
	t.Helper()
	a := filled(t, words, n)
	given := slices.Clone(lanes)
	from := a.Log().Len()
	kept, ok := pack.Pack(a, keep, n, lanes...)
	events := a.Log().Events()[from:]
	want, count := packed(words, keep, n, lanes)
	if !ok || value(kept) != count {
		t.Fatalf("Pack of %d, %d, %v: %d, %v, want %d", keep, n, given, value(kept), ok, count)
	}
	if a.Top() != len(words) || !slices.Equal(lanes, given) {
		t.Errorf("Pack of %d, %d, %v: Top %d, was %d; lanes %v", keep, n, given, a.Top(), len(words), lanes)
	}
	if cost := pack.Cost(n, len(lanes)); len(events) != cost {
		t.Errorf("Pack of %d, %d, %v: %d events, Cost %d", keep, n, given, len(events), cost)
	}
	if got := a.Show(0, len(words)); !slices.Equal(got, want) {
		t.Fatalf("Pack of %d, %d, %v: %v became %v, want %v", keep, n, given, words, got, want)
	}
	a.Give(0)
	if !a.Blank() {
		t.Errorf("Pack of %d, %d, %v: something stays behind", keep, n, given)
	}
	return events
}

// drawn answers n words below bound.
func drawn(draw *rand.Rand, n, bound int) []uint32 {
	words := make([]uint32, n)
	for i := range words {
		words[i] = uint32(draw.Int63n(int64(bound)))
	}
	return words
}

func TestTheExample(t *testing.T) {
	a := filled(t, []uint32{yes, 0, yes, 5, 6, 7}, 3)
	kept, ok := pack.Pack(a, 0, 3, 3)
	if !ok || value(kept) != 2 || !slices.Equal(a.Show(0, 6), []uint32{yes, yes, 0, 5, 7, 0}) {
		t.Error(ok, value(kept), a.Show(0, 6))
	}
}

// TestEveryKeepLane goes over all masks of up to 11 words, with words that are told apart.
func TestEveryKeepLane(t *testing.T) {
	for n := range 12 {
		for set := range 1 << n {
			words := make([]uint32, 2*n)
			for i := range n {
				words[i] = -uint32(set >> i & 1)
				words[n+i] = uint32(100 + i)
			}
			expectPacked(t, words, 0, n, n)
		}
	}
}

// TestKeptByTheLowestBitAlone holds that the other bits of a keep word change nothing.
func TestKeptByTheLowestBitAlone(t *testing.T) {
	keep := []uint32{0, 1, 2, 3, yes, yes - 1, 1 << 31, 1<<31 + 1}
	a := filled(t, append(keep, 10, 11, 12, 13, 14, 15, 16, 17), 8)
	kept, ok := pack.Pack(a, 0, 8, 8)
	if !ok || value(kept) != 4 || !slices.Equal(a.Show(0, 16), []uint32{yes, yes, yes, yes, 0, 0, 0, 0, 11, 13, 14, 17, 0, 0, 0, 0}) {
		t.Error(ok, value(kept), a.Show(0, 16))
	}
}

// TestWordsStayWhole holds that all 32 bits of a word go with it, and that words that are the same, or 0, aren't lost.
func TestWordsStayWhole(t *testing.T) {
	expectPacked(t, []uint32{0, 1, 1, 0, 1, 9, yes, 1 << 31, 9, 0x55555555}, 0, 5, 5)
	expectPacked(t, []uint32{0, 1, 1, 0, 1, 7, 7, 7, 7, 7}, 0, 5, 5)
	expectPacked(t, []uint32{0, 1, 1, 1, 1, 7, 0, 3, 0, 0}, 0, 5, 5)
}

func TestDrawnLanes(t *testing.T) {
	draw := rand.New(rand.NewSource(1))
	for range 1500 {
		n, gap := draw.Intn(70), draw.Intn(3)
		places := make([]int, 1+draw.Intn(5))
		for i, at := range draw.Perm(len(places)) {
			places[i] = gap + at*(n+gap)
		}
		words := drawn(draw, gap+len(places)*(n+gap), []int{2, 3, 1 << 32}[draw.Intn(3)])
		for i, seldom := 0, draw.Intn(6); i < n; i++ {
			if seldom == 0 || seldom == 1 && draw.Intn(8) > 0 {
				words[places[0]+i] &^= 1
			}
			if seldom == 5 || seldom == 4 && draw.Intn(8) > 0 {
				words[places[0]+i] |= 1
			}
		}
		expectPacked(t, words, places[0], n, places[1:]...)
	}
}

func TestTheMost(t *testing.T) {
	draw := rand.New(rand.NewSource(2))
	expectPacked(t, drawn(draw, 2*most+1, 1<<32), most+1, most, 0)
	// The way of the last one is as long as may be.
	far := make([]uint32, 2*most)
	far[most-1], far[2*most-1] = 1, 77
	expectPacked(t, far, 0, most, most)
}

// TestRoom holds that n words, and no fewer, must be left to be taken.
func TestRoom(t *testing.T) {
	for n := 1; n < 20; n++ {
		words := make([]uint32, 2*n)
		words[n-1] = 1
		expectPacked(t, words, 0, n, n)
		expectRefused(t, filled(t, words, n-1), 0, n, n)
		expectRefused(t, filled(t, words, 0), 0, n, n)
	}
}

// TestWhatIsSeen holds the order of Take and Give, and that no place is looked at but those of the lanes and those that are taken.
func TestWhatIsSeen(t *testing.T) {
	draw := rand.New(rand.NewSource(3))
	for n := range 20 {
		words := drawn(draw, 4*n+5, 1<<32)
		keep, lanes := 2*n+2, []int{3*n + 4, 1}
		events := expectPacked(t, words, keep, n, lanes...)
		top := len(words)
		if first := (api.Event{Kind: api.Take, Index: top, Value: uint32(n)}); events[0] != first {
			t.Errorf("%d: first %v", n, events[0])
		}
		if last := (api.Event{Kind: api.Give, Index: top, Value: uint32(n)}); events[len(events)-1] != last {
			t.Errorf("%d: last %v", n, events[len(events)-1])
		}
		for _, e := range events[1 : len(events)-1] {
			in := slices.ContainsFunc([]int{keep, lanes[0], lanes[1], top}, func(at int) bool { return e.Index >= at && e.Index < at+n })
			if !in || e.Kind != api.Load && e.Kind != api.Store || e.Value != 0 {
				t.Fatalf("%d: %v", n, e)
			}
		}
	}
}

// TestTheSameEventsOfOtherWords holds P4.2.
func TestTheSameEventsOfOtherWords(t *testing.T) {
	draw := rand.New(rand.NewSource(4))
	for n := range 40 {
		for count := range 4 {
			lanes := make([]int, count)
			for i := range lanes {
				lanes[i] = (i + 1) * n
			}
			size := (count + 1) * n
			want := expectPacked(t, make([]uint32, size), 0, n, lanes...)
			for range 3 {
				if got := expectPacked(t, drawn(draw, size, 1<<32), 0, n, lanes...); !slices.Equal(got, want) {
					t.Fatalf("%d words, %d lanes: other words, other events", n, count)
				}
			}
			if got := expectPacked(t, slices.Repeat([]uint32{yes}, size), 0, n, lanes...); !slices.Equal(got, want) {
				t.Fatalf("%d words, %d lanes: all kept, other events", n, count)
			}
		}
	}
}

func TestNoLaneBesideTheKeepLane(t *testing.T) {
	expectPacked(t, []uint32{0, 1, 0, 3, 0, 5}, 1, 5)
	expectPacked(t, []uint32{1}, 0, 1)
	expectPacked(t, []uint32{8}, 0, 1)
}

// TestOfNone holds that rows of no words are within up to Top, and have no word in common.
func TestOfNone(t *testing.T) {
	words := []uint32{1, 2, 3}
	for at := range 4 {
		expectPacked(t, words, at, 0)
		expectPacked(t, words, at, 0, at, at)
		expectPacked(t, words, at, 0, 0, 3)
	}
	expectPacked(t, nil, 0, 0, 0)
	for _, at := range []int{math.MinInt, -1, 4, math.MaxInt} {
		expectRefused(t, filled(t, words, 4), at, 0)
		expectRefused(t, filled(t, words, 4), 0, 0, at)
	}
}

// expectRefused holds that the word 0 and false are answered, and nothing is done.
func expectRefused(t *testing.T, a *arena.Arena, keep, n int, lanes ...int) {
	t.Helper()
	top, from := a.Top(), a.Log().Len()
	given := slices.Clone(lanes)
	kept, ok := pack.Pack(a, keep, n, lanes...)
	if ok || value(kept) != 0 || !slices.Equal(given, lanes) {
		t.Errorf("Pack of %d, %d, %v: %d, %v", keep, n, given, value(kept), ok)
	}
	if a.Top() != top || a.Log().Len() != from {
		t.Errorf("Pack of %d, %d, %v: something is done", keep, n, given)
	}
}

func TestRefused(t *testing.T) {
	words := []uint32{1, 0, 1, 0, 5, 6, 7, 8, 9, 10}
	a := filled(t, words, 20)
	for _, c := range []struct {
		keep, n int
		lanes   []int
	}{
		{0, -1, nil}, {0, -1, []int{4}}, {0, math.MinInt, []int{4}}, {0, math.MaxInt, []int{4}}, {5, most + 1, nil},
		{-1, 3, []int{4}}, {8, 3, []int{4}}, {math.MinInt, 3, []int{4}}, {math.MaxInt, 3, []int{4}}, {10, 1, nil},
		{0, 3, []int{-1}}, {0, 3, []int{8}}, {0, 3, []int{4, 8}}, {0, 3, []int{8, 4}}, {0, 3, []int{math.MinInt}}, {0, 3, []int{math.MaxInt}}, {0, 1, []int{10}},
		{0, 3, []int{0}}, {0, 3, []int{2}}, {2, 3, []int{0}}, {0, 1, []int{0}}, {4, 3, []int{0, 6}}, {4, 3, []int{6, 0}}, {4, 3, []int{7, 0, 2}},
		{0, 3, []int{4, 4}}, {0, 3, []int{4, 6}}, {0, 3, []int{6, 4}}, {0, 2, []int{4, 8, 5}}, {0, 11, nil},
	} {
		expectRefused(t, a, c.keep, c.n, c.lanes...)
	}
	if got := a.Show(0, len(words)); !slices.Equal(got, words) {
		t.Error(got)
	}
}

// TestMoreThanTheMost holds that too great an n is refused where there is room for it.
func TestMoreThanTheMost(t *testing.T) {
	words := make([]uint32, 2*(most+1))
	expectRefused(t, filled(t, words, most+1), 0, most+1)
	expectRefused(t, filled(t, words, most+1), 0, most+1, most+1)
}

func TestNoArena(t *testing.T) {
	for _, n := range []int{-1, 0, 1, most, most + 1} {
		for _, lanes := range [][]int{nil, {0}, {n}, {-1, 5}} {
			expectRefused(t, nil, 0, n, lanes...)
		}
	}
}

func TestSteps(t *testing.T) {
	for n := -3; n < 70000; n++ {
		want := 0
		for size := 1; size < n; size *= 2 {
			want++
		}
		if got := pack.Steps(n); got != want {
			t.Fatalf("Steps of %d: %d, want %d", n, got, want)
		}
	}
	for _, c := range [][2]int{{math.MinInt, 0}, {most, 16}, {1 << 62, 62}, {1<<62 + 1, 63}, {math.MaxInt, 63}} {
		if got := pack.Steps(c[0]); got != c[1] {
			t.Errorf("Steps of %d: %d, want %d", c[0], got, c[1])
		}
	}
}

func TestCostOfWhatMayNotBe(t *testing.T) {
	for _, c := range [][2]int{{-1, 1}, {1, -1}, {-1, -1}, {math.MinInt, 2}, {2, math.MinInt}, {most + 1, 1}, {math.MaxInt, 1}, {math.MaxInt, math.MaxInt}, {0, -1}, {-1, 0}} {
		if got := pack.Cost(c[0], c[1]); got != 0 {
			t.Errorf("Cost of %v: %d", c, got)
		}
	}
	if pack.Cost(0, 0) <= 0 || pack.Cost(most, 0) <= pack.Cost(most-1, 0) || pack.Cost(most, 1) <= pack.Cost(most, 0) {
		t.Error("the cost of what may be")
	}
	pack.Cost(most, math.MaxInt)
}
