package scan_test

import (
	"math"
	"math/rand"
	"slices"
	"testing"

	"sabretache/api"
	"sabretache/arena"
	"sabretache/ct"
	"sabretache/scan"
)

const yes = uint32(math.MaxUint32)

// result is what a call answers: word and found are 0 of calls that have none.
type result struct {
	word, found uint32
	ok          bool
}

// call is one of the package's, with what it is to do, by a model that goes at it another way.
type call struct {
	name string
	two  bool
	cost int
	do   func(a *arena.Arena, at, has, n int) result
	// want answers the words that are to stand in the lane, and what is to be answered.
	want func(words, has []uint32) ([]uint32, result)
}

func value(s ct.Sec) uint32 {
	return ct.NewLog().Release(s)
}

func one(f func(*arena.Arena, int, int) (ct.Sec, bool)) func(a *arena.Arena, at, has, n int) result {
	return func(a *arena.Arena, at, _, n int) result {
		word, ok := f(a, at, n)
		return result{word: value(word), ok: ok}
	}
}

func filling(f func(*arena.Arena, int, int, int) bool) func(a *arena.Arena, at, has, n int) result {
	return func(a *arena.Arena, at, has, n int) result {
		return result{ok: f(a, at, has, n)}
	}
}

func finding(f func(*arena.Arena, int, int, int) (ct.Sec, ct.Sec, bool)) func(a *arena.Arena, at, has, n int) result {
	return func(a *arena.Arena, at, has, n int) result {
		word, found, ok := f(a, at, has, n)
		return result{value(word), value(found), ok}
	}
}

func sum(words []uint32) uint32 {
	var all uint64
	for _, v := range words {
		all += uint64(v)
	}
	return uint32(all)
}

func ors(words []uint32) uint32 {
	var all uint32
	for _, v := range words {
		all |= v
	}
	return all
}

// parts answers f of a part of the words at each number, and of all of them.
func parts(f func([]uint32) uint32, part func(words []uint32, i int) []uint32) func(words, has []uint32) ([]uint32, result) {
	return func(words, _ []uint32) ([]uint32, result) {
		want := make([]uint32, len(words))
		for i := range words {
			want[i] = f(part(words, i))
		}
		return want, result{word: f(words), ok: true}
	}
}

// seen answers the numbers of those that have.
func seen(has []uint32) []int {
	var numbers []int
	for i, v := range has {
		if v%2 == 1 {
			numbers = append(numbers, i)
		}
	}
	return numbers
}

func wantCarried(words, has []uint32) ([]uint32, result) {
	want := make([]uint32, len(words))
	for i := range words {
		if ahead := seen(has[:i+1]); len(ahead) > 0 {
			want[i] = words[ahead[len(ahead)-1]]
		}
	}
	return want, result{ok: true}
}

func wantBack(words, has []uint32) ([]uint32, result) {
	want := make([]uint32, len(words))
	for i := range words {
		if behind := seen(has[i:]); len(behind) > 0 {
			want[i] = words[i+behind[0]]
		}
	}
	return want, result{ok: true}
}

func wantFound(pick func(numbers []int) int) func(words, has []uint32) ([]uint32, result) {
	return func(words, has []uint32) ([]uint32, result) {
		numbers := seen(has)
		if len(numbers) == 0 {
			return words, result{ok: true}
		}
		return words, result{words[pick(numbers)], yes, true}
	}
}

func calls() []call {
	upTo := func(words []uint32, i int) []uint32 { return words[:i+1] }
	ahead := func(words []uint32, i int) []uint32 { return words[:i] }
	from := func(words []uint32, i int) []uint32 { return words[i:] }
	first := func(numbers []int) int { return slices.Min(numbers) }
	last := func(numbers []int) int { return slices.Max(numbers) }
	return []call{
		{"Sums", false, 2, one(scan.Sums), parts(sum, upTo)},
		{"Before", false, 2, one(scan.Before), parts(sum, ahead)},
		{"Ors", false, 2, one(scan.Ors), parts(ors, upTo)},
		{"Behind", false, 2, one(scan.Behind), parts(ors, from)},
		{"Carry", true, 3, filling(scan.Carry), wantCarried},
		{"Back", true, 3, filling(scan.Back), wantBack},
		{"First", true, 2, finding(scan.First), wantFound(first)},
		{"Last", true, 2, finding(scan.Last), wantFound(last)},
	}
}

// filled has these words taken, and some more that aren't.
func filled(t *testing.T, words []uint32) *arena.Arena {
	t.Helper()
	a := arena.New(len(words) + 5)
	if _, ok := a.Take(len(words)); !ok || !a.Put(0, words) {
		t.Fatalf("no arena of %d words", len(words))
	}
	return a
}

// expectDone calls, and holds all words, the answer and what was noted against what they should be.
func (c call) expectDone(t *testing.T, words []uint32, at, has, n int) []api.Event {
	t.Helper()
	a := filled(t, words)
	log := a.Log().Len()
	got := c.do(a, at, has, n)
	events := a.Log().Events()[log:]
	lane, want := c.want(words[at:at+n], words[has:has+n])
	if got != want {
		t.Fatalf("%s of %d, %d, %d in %v: %v, want %v", c.name, at, has, n, words, got, want)
	}
	whole := slices.Concat(words[:at], lane, words[at+n:])
	if got := a.Show(0, len(words)); !slices.Equal(got, whole) {
		t.Fatalf("%s of %d, %d, %d: %v became %v, want %v", c.name, at, has, n, words, got, whole)
	}
	if len(events) != c.cost*n || a.Top() != len(words) {
		t.Errorf("%s of %d words: %d events, %d words taken, %d before", c.name, n, len(events), a.Top(), len(words))
	}
	return events
}

// drawn answers n words below bound.
func drawn(draw *rand.Rand, n, bound int) []uint32 {
	words := make([]uint32, n)
	for i := range words {
		words[i] = uint32(draw.Int63n(int64(bound)))
	}
	return words
}

func TestTheExample(t *testing.T) {
	a := filled(t, []uint32{1, 2, 3})
	if all, ok := scan.Sums(a, 0, 3); !ok || value(all) != 6 || !slices.Equal(a.Show(0, 3), []uint32{1, 3, 6}) {
		t.Error(ok, value(all), a.Show(0, 3))
	}
}

// TestWhatIsWrittenDown holds the calls, by numbers written down, not by the model.
func TestWhatIsWrittenDown(t *testing.T) {
	words := []uint32{4, 1, 8, 2, 1}
	has := []uint32{0, 3, 2, 1, 4}
	for i, want := range []struct {
		lane []uint32
		result
	}{
		{[]uint32{4, 5, 13, 15, 16}, result{16, 0, true}},
		{[]uint32{0, 4, 5, 13, 15}, result{16, 0, true}},
		{[]uint32{4, 5, 13, 15, 15}, result{15, 0, true}},
		{[]uint32{15, 11, 11, 3, 1}, result{15, 0, true}},
		{[]uint32{0, 1, 1, 2, 2}, result{0, 0, true}},
		{[]uint32{1, 1, 2, 2, 0}, result{0, 0, true}},
		{words, result{1, yes, true}},
		{words, result{2, yes, true}},
	} {
		c := calls()[i]
		a := filled(t, slices.Concat(words, has))
		got := c.do(a, 0, 5, 5)
		if lane := a.Show(0, 10); got != want.result || !slices.Equal(lane, slices.Concat(want.lane, has)) {
			t.Errorf("%s: %v, %v", c.name, got, lane)
		}
	}
}

// TestEveryHasLane goes over all masks of up to 9 words, with words that are told apart, the lanes in both orders.
func TestEveryHasLane(t *testing.T) {
	for _, c := range calls() {
		for n := range 10 {
			for set := range 1 << n {
				words := make([]uint32, 3*n)
				for i := range n {
					words[i], words[2*n+i] = uint32(100+i), uint32(200+i)
					words[n+i] = -uint32(set >> i & 1)
				}
				c.expectDone(t, words, 0, n, n)
				c.expectDone(t, words, 2*n, n, n)
			}
		}
	}
}

// TestHasByTheLowestBitAlone holds that the other bits of a has word change nothing.
func TestHasByTheLowestBitAlone(t *testing.T) {
	high := []uint32{0, 1, 2, 3, yes, yes - 1, 1 << 31, 1<<31 + 1}
	none := []uint32{0, 2, 4, yes - 1, 1 << 31, 1 << 30, 0xaaaaaaaa, 6}
	words := []uint32{yes, 1 << 31, 0x55555555, 3, 0x80000001, yes - 1, 77, 0}
	for _, c := range calls() {
		for turn := range 8 {
			for _, has := range [][]uint32{high, none} {
				turned := slices.Concat(has[turn:], has[:turn])
				c.expectDone(t, slices.Concat(words, turned), 0, 8, 8)
				c.expectDone(t, slices.Concat(turned, words), 8, 0, 8)
			}
		}
	}
}

// TestAWordOfZeroThatHas holds that a word is found by the has lane, whatever it is itself.
func TestAWordOfZeroThatHas(t *testing.T) {
	a := filled(t, []uint32{7, 0, 9, 0, 1, 0})
	for _, f := range []func(*arena.Arena, int, int, int) (ct.Sec, ct.Sec, bool){scan.First, scan.Last} {
		if word, found, ok := f(a, 0, 3, 3); !ok || value(word) != 0 || value(found) != yes {
			t.Error(value(word), value(found), ok)
		}
	}
	if !scan.Carry(a, 0, 3, 3) || !slices.Equal(a.Show(0, 3), []uint32{0, 0, 0}) {
		t.Error(a.Show(0, 3))
	}
}

// TestSumsPastTheGreatest holds that sums are what is left of them by 2^32.
func TestSumsPastTheGreatest(t *testing.T) {
	for _, c := range calls() {
		c.expectDone(t, []uint32{yes, 1, yes, yes, 2, 1 << 31, 1 << 31, 5, 1, 1, 1, 1, 0, 0, 0, 0}, 0, 8, 8)
	}
}

func TestDrawnLanes(t *testing.T) {
	draw := rand.New(rand.NewSource(1))
	for _, c := range calls() {
		for range 400 {
			n, gap := draw.Intn(40), draw.Intn(3)
			lanes := []int{gap, gap + n + gap}
			draw.Shuffle(2, func(i, j int) { lanes[i], lanes[j] = lanes[j], lanes[i] })
			words := drawn(draw, 2*n+3*gap, []int{2, 3, 16, 1 << 32}[draw.Intn(4)])
			if draw.Intn(2) == 0 {
				for i := range n {
					if draw.Intn(8) > 0 {
						words[lanes[1]+i] &^= 1
					}
				}
			}
			c.expectDone(t, words, lanes[0], lanes[1], n)
		}
	}
}

// TestWhatIsSeen holds that each word is read, and written where it becomes another, once, and no place beside the lanes is looked at.
func TestWhatIsSeen(t *testing.T) {
	draw := rand.New(rand.NewSource(2))
	for _, c := range calls() {
		for n := range 12 {
			words, at, has := drawn(draw, 2*n+5, 1<<32), n+3, 1
			looks := map[api.Event]int{}
			for _, e := range c.expectDone(t, words, at, has, n) {
				looks[e]++
			}
			for i := range n {
				want := []api.Event{{Kind: api.Load, Index: at + i}}
				if c.two {
					want = append(want, api.Event{Kind: api.Load, Index: has + i})
				}
				if c.cost > len(want) {
					want = append(want, api.Event{Kind: api.Store, Index: at + i})
				}
				for _, e := range want {
					if looks[e] != 1 {
						t.Errorf("%s of %d words: %v is noted %d times", c.name, n, e, looks[e])
					}
				}
			}
		}
	}
}

// TestTheSameEventsOfOtherWords holds P5.2.
func TestTheSameEventsOfOtherWords(t *testing.T) {
	draw := rand.New(rand.NewSource(3))
	for _, c := range calls() {
		for n := range 30 {
			want := c.expectDone(t, make([]uint32, 2*n), n, 0, n)
			others := [][]uint32{slices.Repeat([]uint32{yes}, 2*n), drawn(draw, 2*n, 2), drawn(draw, 2*n, 1<<32)}
			for i := range n {
				alone := make([]uint32, 2*n)
				alone[i], alone[n+i] = 1, 9
				others = append(others, alone)
			}
			for _, words := range others {
				if got := c.expectDone(t, words, n, 0, n); !slices.Equal(got, want) {
					t.Fatalf("%s of %d words: other words, other events", c.name, n)
				}
			}
		}
	}
}

// TestAsManyAsThereMayBe holds that no n is too great, if it is within.
func TestAsManyAsThereMayBe(t *testing.T) {
	for _, c := range calls() {
		a := arena.New(api.MaxWords)
		a.Take(api.MaxWords)
		n := api.MaxWords
		if c.two {
			n /= 2
		}
		if got := c.do(a, 0, api.MaxWords-n, n); got != (result{ok: true}) || a.Log().Len() != 1+c.cost*n {
			t.Errorf("%s of %d words: %v, %d events", c.name, n, got, a.Log().Len())
		}
	}
}

// TestOfNone holds that rows of no words are within up to Top, and have no word in common.
func TestOfNone(t *testing.T) {
	words := []uint32{1, 2, 3}
	for _, c := range calls() {
		for at := range 4 {
			for has := range 4 {
				c.expectDone(t, words, at, has, 0)
			}
		}
		c.expectDone(t, nil, 0, 0, 0)
		for _, at := range []int{math.MinInt, -1, 4, math.MaxInt} {
			c.expectRefused(t, filled(t, words), at, 0, 0)
			if c.two {
				c.expectRefused(t, filled(t, words), 0, at, 0)
			}
		}
	}
}

// TestOfOneLaneAlone holds that calls of one lane ask for no other: the whole arena may be it.
func TestOfOneLaneAlone(t *testing.T) {
	for _, c := range calls() {
		if !c.two {
			c.expectDone(t, []uint32{9, 8, 1, 4}, 0, 0, 4)
			c.expectDone(t, []uint32{9, 8, 1, 4}, 3, 3, 1)
		}
	}
}

// expectRefused holds that the words 0 and false are answered, and nothing is done.
func (c call) expectRefused(t *testing.T, a *arena.Arena, at, has, n int) {
	t.Helper()
	top, log := a.Top(), a.Log().Len()
	if got := c.do(a, at, has, n); got != (result{}) {
		t.Errorf("%s of %d, %d, %d: %v", c.name, at, has, n, got)
	}
	if a.Top() != top || a.Log().Len() != log {
		t.Errorf("%s of %d, %d, %d: something is done", c.name, at, has, n)
	}
}

func TestRefused(t *testing.T) {
	words := []uint32{1, 3, 1, 5, 5, 7, 7, 9, 9, 11}
	for _, c := range calls() {
		a := filled(t, words)
		for _, p := range [][3]int{
			{0, 5, -1}, {0, 5, math.MinInt}, {0, 5, math.MaxInt}, {5, 0, math.MaxInt}, {1, 0, math.MaxInt},
			{-1, 5, 3}, {8, 3, 3}, {10, 3, 1}, {11, 3, 1}, {math.MinInt, 3, 3}, {math.MaxInt, 3, 3}, {math.MaxInt, math.MaxInt, math.MaxInt},
			{math.MinInt, math.MinInt, math.MinInt}, {0, 0, 11}, {6, 0, 5},
		} {
			c.expectRefused(t, a, p[0], p[1], p[2])
		}
		for _, p := range [][3]int{
			{0, -1, 3}, {0, 8, 3}, {0, 10, 1}, {0, 11, 1}, {0, math.MinInt, 3}, {0, math.MaxInt, 3}, {0, 6, 5},
			{0, 0, 1}, {0, 0, 10}, {0, 4, 5}, {4, 0, 5}, {5, 3, 3}, {3, 5, 3}, {9, 9, 1},
		} {
			if c.two {
				c.expectRefused(t, a, p[0], p[1], p[2])
			}
		}
		if got := a.Show(0, len(words)); !slices.Equal(got, words) {
			t.Errorf("%s: %v", c.name, got)
		}
	}
}

func TestNoArena(t *testing.T) {
	for _, c := range calls() {
		for _, n := range []int{math.MinInt, -1, 0, 1, math.MaxInt} {
			for _, at := range []int{-1, 0, 1} {
				c.expectRefused(t, nil, at, 0, n)
				c.expectRefused(t, nil, 0, at, n)
			}
		}
	}
}
