package unutf_test

import (
	"math"
	"math/rand"
	"slices"
	"testing"
	"unicode/utf8"

	"sabretache/api"
	"sabretache/arena"
	"sabretache/ct"
	"sabretache/unutf"
)

const (
	maxPoints = 12288
	yes       = uint32(math.MaxUint32)
)

// call is what Encode is handed beside its arena.
type call struct {
	points, keep, n, out, most int
}

func (c call) on(a *arena.Arena) (count, over uint32, ok bool) {
	n, m, ok := unutf.Encode(a, c.points, c.keep, c.n, c.out, c.most)
	log := ct.NewLog()
	return log.Release(n), log.Release(m), ok
}

// filled has these words taken, and as many more to be taken.
func filled(t *testing.T, words []uint32, more int) *arena.Arena {
	t.Helper()
	a := arena.New(len(words) + more)
	if _, ok := a.Take(len(words)); !ok || !a.Put(0, words) {
		t.Fatalf("no arena of %d words and %d more", len(words), more)
	}
	return a
}

// written is how a point is written, digit by digit to base 64, by the chapter's bounds.
func written(point uint32) []uint32 {
	v := point % (1 << 21)
	switch {
	case v < 0x80:
		return []uint32{v}
	case v < 0x800:
		return []uint32{192 + v/64, 128 + v%64}
	case v < 0x10000:
		return []uint32{224 + v/4096, 128 + v/64%64, 128 + v%64}
	}
	return []uint32{240 + v/262144, 128 + v/4096%64, 128 + v/64%64, 128 + v%64}
}

// encoded is what is to stand in all words behind a call, and what is to be answered.
func (c call) encoded(words []uint32) (want []uint32, count, over uint32) {
	want = slices.Clone(words)
	var text []uint32
	for i := range c.n {
		if words[c.keep+i]%2 == 1 {
			text = append(text, written(words[c.points+i])...)
		}
	}
	clear(want[c.out : c.out+c.most])
	if len(text) > c.most {
		return want, uint32(len(text)), yes
	}
	copy(want[c.out:], text)
	return want, uint32(len(text)), 0
}

// expectDone encodes, with just as much room as is asked for, and holds all words, the answer and what was noted against what they should be.
func expectDone(t *testing.T, words []uint32, c call) []api.Event {
	t.Helper()
	a := filled(t, words, 12*c.n)
	from := a.Log().Len()
	count, over, ok := c.on(a)
	events := a.Log().Events()[from:]
	want, wantCount, wantOver := c.encoded(words)
	if !ok || count != wantCount || over != wantOver {
		t.Fatalf("%v of %X: %d, %X, %v, want %d, %X", c, words, count, over, ok, wantCount, wantOver)
	}
	if got := a.Show(0, len(words)); !slices.Equal(got, want) {
		t.Fatalf("%v: %X became %X, want %X", c, words, got, want)
	}
	if cost := unutf.Cost(c.n, c.most); len(events) != cost || a.Top() != len(words) {
		t.Errorf("%v: %d events, Cost %d; %d words taken, %d before", c, len(events), cost, a.Top(), len(words))
	}
	a.Give(0)
	if !a.Blank() {
		t.Errorf("%v: something stays behind", c)
	}
	return events
}

// expectPoints encodes points, in lanes that are in order and all there is. What stood in the out lane is no matter.
func expectPoints(t *testing.T, points, keep []uint32, most int) []api.Event {
	t.Helper()
	n := len(points)
	words := slices.Concat(points, keep, slices.Repeat([]uint32{0xABCDEF77}, most))
	return expectDone(t, words, call{0, n, n, 2 * n, most})
}

// bytesOf tells what n points, all kept, are written as, with room for four bytes each and no zeros behind what is answered.
func bytesOf(t *testing.T, points ...uint32) []byte {
	t.Helper()
	n := len(points)
	a := filled(t, slices.Concat(points, slices.Repeat([]uint32{yes}, n), make([]uint32, 4*n)), 12*n)
	count, over, ok := call{0, n, n, 2 * n, 4 * n}.on(a)
	if !ok || over != 0 || count > uint32(4*n) {
		t.Fatalf("%X: %d, %X, %v", points, count, over, ok)
	}
	text := make([]byte, count)
	for i, b := range a.Show(2*n, int(count)) {
		if b > 255 {
			t.Fatalf("%X: the word %X is no byte", points, b)
		}
		text[i] = byte(b)
	}
	return text
}

// drawnPoint answers a word whose lowest 21 bits are of any number of bytes.
func drawnPoint(draw *rand.Rand) uint32 {
	v := uint32(draw.Intn(1 << []int{7, 11, 16, 21}[draw.Intn(4)]))
	if draw.Intn(4) == 0 {
		v |= draw.Uint32() << 21
	}
	return v
}

// drawnLanes answers n points, and a keep lane that keeps none, few, half, most or all of them.
func drawnLanes(draw *rand.Rand, n int) (points, keep []uint32) {
	points, keep = make([]uint32, n), make([]uint32, n)
	often := []int{0, 1, 4, 7, 8}[draw.Intn(5)]
	for i := range n {
		points[i] = drawnPoint(draw)
		keep[i] = draw.Uint32() &^ 1
		if draw.Intn(8) < often {
			keep[i] |= 1
		}
	}
	return points, keep
}

func TestTheExample(t *testing.T) {
	a := filled(t, []uint32{0xE4, yes, 9, 9}, 12)
	count, over, ok := call{0, 1, 1, 2, 2}.on(a)
	if !ok || count != 2 || over != 0 || !slices.Equal(a.Show(0, 4), []uint32{0xE4, yes, 0xC3, 0xA4}) {
		t.Errorf("%d, %X, %v: %X", count, over, ok, a.Show(0, 4))
	}
}

// TestWhatIsWrittenDown holds points at the chapter's bounds, those that may not be too, by bytes written down, not by the model.
func TestWhatIsWrittenDown(t *testing.T) {
	for point, want := range map[uint32]string{
		0:          "\x00",
		0x7F:       "\x7F",
		0x80:       "\xC2\x80",
		0xFF:       "\xC3\xBF",
		0x7FF:      "\xDF\xBF",
		0x800:      "\xE0\xA0\x80",
		0xFFF:      "\xE0\xBF\xBF",
		0x1000:     "\xE1\x80\x80",
		0x20AC:     "\xE2\x82\xAC",
		0xD7FF:     "\xED\x9F\xBF",
		0xD800:     "\xED\xA0\x80",
		0xDFFF:     "\xED\xBF\xBF",
		0xE000:     "\xEE\x80\x80",
		0xFFFF:     "\xEF\xBF\xBF",
		0x10000:    "\xF0\x90\x80\x80",
		0x1F600:    "\xF0\x9F\x98\x80",
		0x3FFFF:    "\xF0\xBF\xBF\xBF",
		0x40000:    "\xF1\x80\x80\x80",
		0x10FFFF:   "\xF4\x8F\xBF\xBF",
		0x110000:   "\xF4\x90\x80\x80",
		0x13FFFF:   "\xF4\xBF\xBF\xBF",
		0x140000:   "\xF5\x80\x80\x80",
		0x1FFFFF:   "\xF7\xBF\xBF\xBF",
		0x200000:   "\x00",
		0x200061:   "a",
		0x8000007F: "\x7F",
		0xFFE00080: "\xC2\x80",
		0xFFE0FFFF: "\xEF\xBF\xBF",
		0xFFFFFFFF: "\xF7\xBF\xBF\xBF",
	} {
		if got := bytesOf(t, point); string(got) != want {
			t.Errorf("%X: %X, want %X", point, got, want)
		}
		if got := bytesOf(t, 0x61, point, 0xE4); string(got) != "a"+want+"\u00E4" {
			t.Errorf("%X between two: %X", point, got)
		}
	}
}

// TestTheLibrarysWay holds points that may be against the library's UTF-8: all that take up to three bytes, and every 37th above.
func TestTheLibrarysWay(t *testing.T) {
	var points []uint32
	var want []byte
	end := func() {
		if got := bytesOf(t, points...); !slices.Equal(got, want) {
			t.Fatalf("%X: %X, want %X", points, got, want)
		}
		points, want = points[:0], want[:0]
	}
	for r, step := rune(0), rune(1); r <= utf8.MaxRune; r += step {
		if r == 0x10000 {
			step = 37
		}
		if !utf8.ValidRune(r) {
			continue
		}
		points, want = append(points, uint32(r)), utf8.AppendRune(want, r)
		if len(points) == 500 {
			end()
		}
	}
	end()
}

// TestWhatMayNotBeIsWrittenLikewise goes over the halves of pairs and what is above 10FFFF.
func TestWhatMayNotBeIsWrittenLikewise(t *testing.T) {
	var points []uint32
	for v := uint32(0xD800); v < 0xE000; v++ {
		points = append(points, v)
	}
	for v := uint32(0x110000); v < 1<<21; v += 997 {
		points = append(points, v)
	}
	for row := range slices.Chunk(points, 300) {
		expectPoints(t, row, slices.Repeat([]uint32{yes}, len(row)), 4*len(row))
	}
}

// TestEveryKeepLane goes over all keep lanes of up to 7 points, of as many bytes as there are, and every most that may be.
func TestEveryKeepLane(t *testing.T) {
	all := []uint32{0x20AC, 0x61, 0x1F600, 0xE4, 0, 0x10FFFF, 0x7FF}
	for n := range len(all) + 1 {
		for set := range 1 << n {
			keep := make([]uint32, n)
			for i := range n {
				keep[i] = -uint32(set >> i & 1)
			}
			for most := range 4*n + 1 {
				expectPoints(t, all[:n], keep, most)
			}
		}
	}
}

// TestKeptByTheLowestBitAlone holds that the other bits of a keep word change nothing, and that both lanes stay.
func TestKeptByTheLowestBitAlone(t *testing.T) {
	keep := []uint32{0, 1, 2, 3, yes, yes - 1, 1 << 31, 1<<31 + 1}
	points := []uint32{0x61, 0x62, 0x63, 0x64, 0x65, 0x66, 0x67, 0x200068}
	a := filled(t, slices.Concat(points, keep, slices.Repeat([]uint32{5}, 6)), 96)
	count, over, ok := call{0, 8, 8, 16, 6}.on(a)
	want := slices.Concat(points, keep, []uint32{0x62, 0x64, 0x65, 0x68, 0, 0})
	if got := a.Show(0, 22); !ok || count != 4 || over != 0 || !slices.Equal(got, want) {
		t.Errorf("%d, %X, %v: %X", count, over, ok, got)
	}
}

// TestMost holds what stands at as many bytes as fit, at one more, and at one fewer.
func TestMost(t *testing.T) {
	points := []uint32{0x61, 0xE4, 0x20AC, 0x1F600}
	text := []uint32{0x61, 0xC3, 0xA4, 0xE2, 0x82, 0xAC, 0xF0, 0x9F, 0x98, 0x80}
	for most, over := range map[int]uint32{0: yes, 1: yes, 9: yes, 10: 0, 11: 0, 16: 0} {
		a := filled(t, slices.Concat(points, []uint32{1, 1, 1, 1}, slices.Repeat([]uint32{7}, most)), 48)
		want := make([]uint32, most)
		if over == 0 {
			copy(want, text)
		}
		count, got, ok := call{0, 4, 4, 8, most}.on(a)
		if out := a.Show(8, most); !ok || count != 10 || got != over || !slices.Equal(out, want) {
			t.Errorf("most %d: %d, %X, %v: %X", most, count, got, ok, out)
		}
	}
}

// TestDrawnLanes holds that lanes may stand in any order, with words between them that stay as they are.
func TestDrawnLanes(t *testing.T) {
	draw := rand.New(rand.NewSource(1))
	for range 3000 {
		n, gap := draw.Intn(25), draw.Intn(3)
		sizes := []int{n, n, draw.Intn(4*n + 1)}
		places := make([]int, 3)
		end := gap
		for _, i := range draw.Perm(3) {
			places[i] = end
			end += sizes[i] + gap
		}
		words := make([]uint32, end)
		for i := range words {
			words[i] = draw.Uint32()
		}
		points, keep := drawnLanes(draw, n)
		copy(words[places[0]:], points)
		copy(words[places[1]:], keep)
		expectDone(t, words, call{places[0], places[1], n, places[2], sizes[2]})
	}
}

func TestTheMost(t *testing.T) {
	draw := rand.New(rand.NewSource(2))
	points, keep := drawnLanes(draw, maxPoints)
	expectPoints(t, points, keep, 4*maxPoints)
	expectPoints(t, points, keep, maxPoints)
	// As many bytes as may be, and one fewer than these.
	wide, all := slices.Repeat([]uint32{0x10FFFF}, maxPoints), slices.Repeat([]uint32{1}, maxPoints)
	expectPoints(t, wide, all, 4*maxPoints)
	expectPoints(t, wide, all, 4*maxPoints-1)
	// The way of the last one is as long as may be.
	expectPoints(t, make([]uint32, maxPoints), append(make([]uint32, maxPoints-1), 1), 1)
}

// TestRoom holds that 12 words a point, and no fewer, must be left to be taken.
func TestRoom(t *testing.T) {
	for n := 1; n < 20; n++ {
		words := slices.Repeat([]uint32{0x161}, 6*n)
		c := call{0, n, n, 2 * n, 4 * n}
		expectDone(t, words, c)
		for _, more := range []int{12*n - 1, 8 * n, 8*n - 1, 1, 0} {
			expectRefused(t, filled(t, words, more), c)
		}
	}
}

// TestWhatIsSeen holds that nothing is told, the points and their keep lane aren't written, the out lane is, and no place is looked at but these and 12 words a point behind what was taken.
func TestWhatIsSeen(t *testing.T) {
	draw := rand.New(rand.NewSource(3))
	for n := range 20 {
		most := draw.Intn(4*n + 1)
		c := call{most + n + 3, 1, n, n + 2, most}
		words := make([]uint32, 2*n+most+5)
		for i := range words {
			words[i] = draw.Uint32()
		}
		within := func(at, from, n int) bool { return at >= from && at < from+n }
		for _, e := range expectDone(t, words, c) {
			given := within(e.Index, c.points, n) || within(e.Index, c.keep, n)
			own := within(e.Index, c.out, most) || within(e.Index, len(words), 12*n)
			switch e.Kind {
			case api.Load:
				if !given && !own {
					t.Errorf("%v: %v", c, e)
				}
			case api.Store:
				if !own {
					t.Errorf("%v: %v", c, e)
				}
			case api.Release:
				t.Errorf("%v: %v", c, e)
			case api.Take, api.Give:
				if e.Index < len(words) || e.Index+int(e.Value) > len(words)+12*n {
					t.Errorf("%v: %v", c, e)
				}
			}
		}
	}
}

// TestTheSameEventsOfOtherWords holds P10.2.
func TestTheSameEventsOfOtherWords(t *testing.T) {
	draw := rand.New(rand.NewSource(4))
	for _, n := range []int{0, 1, 2, 3, 4, 5, 8, 13, 40, 300} {
		for _, most := range []int{0, n / 2, n, 3 * n, 4 * n} {
			zeros, ones := make([]uint32, n), slices.Repeat([]uint32{yes}, n)
			want := expectPoints(t, zeros, zeros, most)
			expectSame := func(points, keep []uint32) {
				if got := expectPoints(t, points, keep, most); !slices.Equal(got, want) {
					t.Fatalf("%d points, most %d: other words, other events", n, most)
				}
			}
			expectSame(ones, ones)
			expectSame(zeros, ones)
			expectSame(ones, zeros)
			for range 6 {
				points, keep := drawnLanes(draw, n)
				expectSame(points, keep)
			}
		}
	}
}

// TestOfNone holds that rows of no words are within up to Top, and have no word in common.
func TestOfNone(t *testing.T) {
	words := []uint32{1, 2, 3}
	for at := range 4 {
		expectDone(t, words, call{at, at, 0, at, 0})
		expectDone(t, words, call{0, 3, 0, at, 0})
	}
	expectDone(t, nil, call{})
	for _, at := range []int{math.MinInt, -1, 4, math.MaxInt} {
		expectRefused(t, filled(t, words, 9), call{at, 0, 0, 0, 0})
		expectRefused(t, filled(t, words, 9), call{0, at, 0, 0, 0})
		expectRefused(t, filled(t, words, 9), call{0, 0, 0, at, 0})
	}
	// An out lane of no words may stand in the midst of another.
	expectDone(t, []uint32{0x61, 0x62, 1, 1}, call{0, 2, 2, 1, 0})
	expectDone(t, []uint32{0x61, 0x62, 1, 1}, call{0, 2, 2, 4, 0})
	expectRefused(t, filled(t, []uint32{0x61, 0x62, 1, 1}, 24), call{0, 2, 2, 5, 0})
}

// expectRefused holds that the word 0 twice and false are answered, and nothing is done.
func expectRefused(t *testing.T, a *arena.Arena, c call) {
	t.Helper()
	top, from := a.Top(), a.Log().Len()
	before := a.Log().Events()
	if count, over, ok := c.on(a); ok || count != 0 || over != 0 {
		t.Errorf("%v: %d, %X, %v", c, count, over, ok)
	}
	if a.Top() != top || a.Log().Len() != from || !slices.Equal(a.Log().Events(), before) {
		t.Errorf("%v: something is done", c)
	}
}

func TestRefused(t *testing.T) {
	words := make([]uint32, 20)
	for i := range words {
		words[i] = uint32(0x61 + i)
	}
	a := filled(t, words, 500)
	for _, n := range []int{math.MinInt, -1, 21, maxPoints, maxPoints + 1, math.MaxInt/4 + 1, math.MaxInt} {
		expectRefused(t, a, call{0, 3, n, 6, 0})
	}
	for _, most := range []int{math.MinInt, -1, 13, 14, 1 << 20, math.MaxInt} {
		expectRefused(t, a, call{0, 3, 3, 6, most})
	}
	expectRefused(t, a, call{0, 0, 0, 0, 1})
	expectRefused(t, a, call{0, 0, 0, 0, -1})
	for _, at := range []int{math.MinInt, -3, -1, 18, 19, 20, 21, math.MaxInt} {
		expectRefused(t, a, call{at, 0, 3, 3, 4})
		expectRefused(t, a, call{0, at, 3, 3, 4})
		expectRefused(t, a, call{0, 3, 3, at, 4})
	}
	expectRefused(t, a, call{0, 3, 3, 9, 12})
	for _, near := range []int{5, 6, 7, 8, 9} {
		expectRefused(t, a, call{near, 7, 3, 12, 2})
		expectRefused(t, a, call{7, near, 3, 12, 2})
	}
	// The out lane is as long as it is, and no longer or shorter than that.
	for _, near := range []int{3, 4, 5, 6, 7, 8, 9} {
		expectRefused(t, a, call{7, 15, 3, near, 5})
		expectRefused(t, a, call{15, 7, 3, near, 5})
	}
	expectRefused(t, a, call{4, 4, 1, 4, 1})
	if got := a.Show(0, len(words)); !slices.Equal(got, words) {
		t.Error(got)
	}
}

// TestLanesThatTouch holds that lanes right beside each other have no word in common.
func TestLanesThatTouch(t *testing.T) {
	words := slices.Repeat([]uint32{0x161}, 20)
	for _, c := range []call{{0, 3, 3, 6, 12}, {7, 10, 3, 2, 5}, {10, 7, 3, 2, 5}, {7, 4, 3, 10, 5}, {17, 14, 3, 2, 12}, {0, 17, 3, 3, 12}} {
		expectDone(t, words, c)
	}
}

// TestMoreThanTheMost holds that too great an n, and too great a most, are refused where there is room for them.
func TestMoreThanTheMost(t *testing.T) {
	n := maxPoints + 1
	a := filled(t, make([]uint32, 6*n), 12*n)
	for _, most := range []int{0, 1, n, 4*maxPoints + 1, 4 * n} {
		expectRefused(t, a, call{0, n, n, 2 * n, most})
	}
	expectRefused(t, a, call{0, n, maxPoints, 2 * n, 4*maxPoints + 1})
}

func TestNoArena(t *testing.T) {
	for _, n := range []int{math.MinInt, -1, 0, 1, maxPoints, maxPoints + 1} {
		expectRefused(t, nil, call{0, 0, n, 0, 0})
		expectRefused(t, nil, call{0, n, n, -n, n})
	}
	expectRefused(t, new(arena.Arena), call{0, 0, 1, 0, 0})
}

func TestCostOfWhatMayNotBe(t *testing.T) {
	for _, c := range [][2]int{{-1, 0}, {0, -1}, {-1, -1}, {-1, -4}, {0, 1}, {1, 5}, {2, 9}, {math.MinInt, 0}, {math.MaxInt, 0}, {math.MaxInt/4 + 1, 0},
		{maxPoints + 1, 0}, {maxPoints + 1, 1}, {maxPoints, 4*maxPoints + 1}, {maxPoints, math.MaxInt}, {1, math.MinInt}, {math.MinInt, math.MinInt}, {math.MaxInt, math.MaxInt}} {
		if got := unutf.Cost(c[0], c[1]); got != 0 {
			t.Errorf("Cost of %v: %d", c, got)
		}
	}
	for _, c := range [][2]int{{0, 0}, {1, 0}, {1, 4}, {maxPoints, 0}, {maxPoints, 4 * maxPoints}} {
		if got := unutf.Cost(c[0], c[1]); got <= 0 {
			t.Errorf("Cost of %v: %d", c, got)
		}
	}
}
