package sortnet_test

import (
	"math"
	"math/bits"
	"math/rand"
	"slices"
	"testing"

	"sabretache/api"
	"sabretache/arena"
	"sabretache/sortnet"
)

// most is the greatest number of words that a network is for.
const most = 12288

// wrong are numbers of words that no network is for, and that Sort refuses.
var wrong = []int{math.MinInt, math.MinInt + 1, -1 << 32, -most, -2, -1, most + 1, 2 * most, 1 << 31, 1<<32 + 2, math.MaxInt - 1, math.MaxInt}

// sizes are numbers of words about the powers of two, and the greatest ones.
func sizes() []int {
	list := []int{0, 1, 100, 777, most - 1, most}
	for p := 2; p < most; p *= 2 {
		list = append(list, p-1, p, p+1)
	}
	return list
}

func drawn(draw *rand.Rand, n, below int) []uint32 {
	l := make([]uint32, n)
	for i := range l {
		l[i] = uint32(draw.Intn(below))
	}
	return l
}

// gone goes through a network as the chapter says it, step by step.
func gone(pairs [][2]int, l []uint32) []uint32 {
	l = slices.Clone(l)
	for _, p := range pairs {
		if l[p[0]] > l[p[1]] {
			l[p[0]], l[p[1]] = l[p[1]], l[p[0]]
		}
	}
	return l
}

func TestPairsOfFewWords(t *testing.T) {
	for n, want := range []int{0, 0, 1, 3, 5, 9, 12, 16, 19} {
		if got := len(sortnet.Pairs(n)); got != want || sortnet.Count(n) != want {
			t.Errorf("%d words: %d pairs, Count %d, want %d", n, got, sortnet.Count(n), want)
		}
	}
	if got := sortnet.Pairs(2); !slices.Equal(got, [][2]int{{0, 1}}) {
		t.Errorf("Pairs(2): %v", got)
	}
}

func TestNoPairs(t *testing.T) {
	for _, n := range append([]int{0, 1}, wrong...) {
		if got := sortnet.Pairs(n); len(got) != 0 || sortnet.Count(n) != 0 {
			t.Errorf("%d words: %d pairs, Count %d", n, len(got), sortnet.Count(n))
		}
	}
}

func TestPairsAreOfPlacesBelow(t *testing.T) {
	for _, n := range sizes() {
		pairs := sortnet.Pairs(n)
		if len(pairs) != sortnet.Count(n) || n > 1 && len(pairs) == 0 {
			t.Errorf("%d words: %d pairs, Count %d", n, len(pairs), sortnet.Count(n))
		}
		for _, p := range pairs {
			if p[0] < 0 || p[0] >= p[1] || p[1] >= n {
				t.Fatalf("%d words: a pair %v", n, p)
			}
		}
	}
}

func TestCountIsOfThePairs(t *testing.T) {
	for n := range 700 {
		if got := len(sortnet.Pairs(n)); got != sortnet.Count(n) {
			t.Errorf("%d words: %d pairs, Count %d", n, got, sortnet.Count(n))
		}
	}
}

// TestPairsAreFew is of P3.2, at each number that a network is for.
func TestPairsAreFew(t *testing.T) {
	for n := 2; n <= most; n++ {
		b := bits.Len(uint(n))
		if got := sortnet.Count(n); got < n-1 || got > n*(b*b+b)/4 {
			t.Errorf("%d words: %d pairs, at most %d", n, got, n*(b*b+b)/4)
		}
	}
}

func TestPairsAreTheCallersOwn(t *testing.T) {
	kept := slices.Clone(sortnet.Pairs(9))
	changed := sortnet.Pairs(9)
	for i := range changed {
		changed[i] = [2]int{7, 7}
	}
	_ = append(changed[:3], [2]int{5, 5})
	if !slices.Equal(sortnet.Pairs(9), kept) {
		t.Error("the pairs of 9 are others now")
	}
}

// TestZerosAndOnes holds that few words are sorted, whatever they are: a network that sorts each row of 0 and 1 sorts all.
func TestZerosAndOnes(t *testing.T) {
	for n := range 15 {
		pairs := sortnet.Pairs(n)
		for row := range 1 << n {
			l := make([]uint32, n)
			for i := range l {
				l[i] = uint32(row >> i & 1)
			}
			if got := gone(pairs, l); !slices.IsSorted(got) {
				t.Fatalf("%v became %v", l, got)
			}
		}
	}
}

// TestManyWords holds the network of many words against their order, of words that all differ, of few values, falling, and of one high or low word in each of some places.
func TestManyWords(t *testing.T) {
	draw := rand.New(rand.NewSource(3))
	for _, n := range sizes() {
		pairs := sortnet.Pairs(n)
		falling := make([]uint32, n)
		for i := range falling {
			falling[i] = uint32(math.MaxUint32 - i)
		}
		lists := [][]uint32{falling, drawn(draw, n, 1<<32), drawn(draw, n, 1<<32), drawn(draw, n, 2), drawn(draw, n, 5), make([]uint32, n)}
		for _, at := range []int{0, n / 3, n / 2, n - 1} {
			if n > 0 {
				high, low := make([]uint32, n), slices.Repeat([]uint32{9}, n)
				high[at], low[at] = math.MaxUint32, 0
				lists = append(lists, high, low)
			}
		}
		for i, l := range lists {
			want := slices.Sorted(slices.Values(l))
			if !slices.Equal(gone(pairs, l), want) {
				t.Fatalf("%d words, list %d: no order", n, i)
			}
			if !slices.Equal(sortnet.Apply(pairs, l), want) {
				t.Fatalf("%d words, list %d: Apply answers otherwise", n, i)
			}
		}
	}
}

func TestEachNumberOfWords(t *testing.T) {
	draw := rand.New(rand.NewSource(4))
	for n := range 400 {
		pairs := sortnet.Pairs(n)
		for _, below := range []int{2, 1 << 32} {
			l := drawn(draw, n, below)
			if !slices.IsSorted(gone(pairs, l)) {
				t.Errorf("%v: no order", l)
			}
		}
	}
}

func TestApply(t *testing.T) {
	for _, c := range []struct {
		pairs   [][2]int
		l, want []uint32
	}{
		{nil, nil, nil},
		{nil, []uint32{3, 1}, []uint32{3, 1}},
		{[][2]int{{0, 1}}, nil, nil},
		{[][2]int{{0, 1}}, []uint32{3}, []uint32{3}},
		{[][2]int{{0, 1}}, []uint32{3, 1}, []uint32{1, 3}},
		{[][2]int{{0, 1}}, []uint32{1, 3}, []uint32{1, 3}},
		{[][2]int{{0, 1}, {0, 1}}, []uint32{math.MaxUint32, 0}, []uint32{0, math.MaxUint32}},
		{[][2]int{{0, 1}}, []uint32{1 << 31, 1<<31 - 1}, []uint32{1<<31 - 1, 1 << 31}},
		// in order: by the other order 7 would come to the front
		{[][2]int{{0, 1}, {1, 2}}, []uint32{9, 8, 7}, []uint32{8, 7, 9}},
		{[][2]int{{1, 2}, {0, 1}}, []uint32{9, 8, 7}, []uint32{7, 9, 8}},
		// what is no pair is left out, and what stands behind it isn't
		{[][2]int{{1, 0}, {2, 2}, {-1, 1}, {-2, -1}, {1, 3}, {3, 4}, {0, 2}}, []uint32{9, 8, 7}, []uint32{7, 8, 9}},
		{[][2]int{{math.MinInt, math.MaxInt}, {math.MaxInt, math.MinInt}, {0, math.MaxInt}, {math.MinInt, 1}, {1, 1 << 32}, {1 << 32, 1<<32 + 1}}, []uint32{2, 1}, []uint32{2, 1}},
		// a pair that was left out isn't turned round either
		{[][2]int{{1, 0}}, []uint32{1, 3}, []uint32{1, 3}},
		{[][2]int{{1, 0}}, []uint32{3, 1}, []uint32{3, 1}},
	} {
		if got := sortnet.Apply(c.pairs, c.l); !slices.Equal(got, c.want) {
			t.Errorf("%v by %v: %v, want %v", c.l, c.pairs, got, c.want)
		}
	}
}

func TestApplyLeavesWhatIsHandedIn(t *testing.T) {
	pairs, l := [][2]int{{2, 1}, {0, 2}, {-1, 9}}, []uint32{9, 8, 7}
	got := sortnet.Apply(pairs, l)
	got[0] = 100
	if !slices.Equal(l, []uint32{9, 8, 7}) || !slices.Equal(pairs, [][2]int{{2, 1}, {0, 2}, {-1, 9}}) {
		t.Error("changed", pairs, l)
	}
	same := sortnet.Apply(nil, l)
	same[1] = 100
	if l[1] != 8 {
		t.Error("shared")
	}
}

func TestCost(t *testing.T) {
	for _, c := range []struct{ n, lanes, want int }{
		{0, 2, 0}, {1, 2, 0}, {2, 2, 8}, {2, 3, 12}, {4, 2, 40}, {5, 3, 108}, {8, 7, 19 * 28}, {5, 1, 0}, {5, 0, 0}, {5, -1, 0}, {5, -2, 0}, {5, math.MinInt, 0}, {0, 1, 0},
		{most, 2, 8 * sortnet.Count(most)}, {most, 300, 1200 * sortnet.Count(most)}, {0, math.MaxInt, 0},
	} {
		if got := sortnet.Cost(c.n, c.lanes); got != c.want {
			t.Errorf("Cost(%d, %d): %d, want %d", c.n, c.lanes, got, c.want)
		}
	}
	for _, n := range wrong {
		if got := sortnet.Cost(n, 2); got != 0 {
			t.Errorf("Cost(%d, 2): %d", n, got)
		}
		sortnet.Cost(2, n)
	}
}

// filled has words, all taken, each of them as put.
func filled(t *testing.T, words []uint32) *arena.Arena {
	t.Helper()
	a := arena.New(len(words))
	if _, ok := a.Take(len(words)); !ok || !a.Put(0, words) {
		t.Fatalf("no arena of %d words", len(words))
	}
	return a
}

// behind answers what Sort answers, and what it noted.
func behind(a *arena.Arena, n int, lanes ...int) (bool, []api.Event) {
	had := a.Log().Len()
	ok := sortnet.Sort(a, n, lanes...)
	return ok, a.Log().Events()[had:]
}
