package expand_test

import (
	"go/ast"
	"go/parser"
	"go/token"
	"math"
	"math/rand"
	"os"
	"slices"
	"strings"
	"testing"

	"sabretache/api"
	"sabretache/arena"
	"sabretache/expand"
	"sabretache/seek"
	"sabretache/tables"
)

const (
	maxPoints = 4096
	yes       = uint32(math.MaxUint32)
)

// call is what Expand is handed beside its arena and the table.
type call struct {
	points, keep, n, out, outKeep int
}

func (c call) on(a *arena.Arena, full seek.Table) bool {
	return expand.Expand(a, full, c.points, c.keep, c.n, c.out, c.outKeep)
}

// filled has these words taken, and as many more to be taken.
func filled(t *testing.T, words []uint32, more int) *arena.Arena {
	t.Helper()
	a := arena.New(len(words) + more)
	if _, ok := a.Take(len(words)); !ok || !a.Put(0, words) {
		t.Fatalf("no arena of %d words and %d more", len(words), more)
	}
	return a
}

// became is what a point becomes, and which of its words are there, told by branches.
func became(full seek.Table, p uint32) (words [3]uint32, there [3]bool) {
	switch {
	case p >= 0xAC00 && p <= 0xD7A3:
		k := p - 0xAC00
		words = [3]uint32{0x1100 + k/588, 0x1161 + k/28%21}
		if k%28 > 0 {
			words[2] = 0x11A7 + k%28
		}
	case slices.Contains(full.Keys, p):
		words = rowsOf(full, p)
	default:
		return [3]uint32{p}, [3]bool{true}
	}
	for j, w := range words {
		there[j] = w != 0
	}
	return words, there
}

// rowsOf is the first three words of all rows of a key, or'ed.
func rowsOf(full seek.Table, p uint32) (words [3]uint32) {
	for i, row := range full.Rows {
		if i >= len(full.Keys) || full.Keys[i] != p {
			continue
		}
		for j, w := range row {
			if j < 3 && j < len(full.Rows[0]) {
				words[j] |= w
			}
		}
	}
	return words
}

// expanded is what is to stand in all words behind a call.
func (c call) expanded(full seek.Table, words []uint32) []uint32 {
	want := slices.Clone(words)
	clear(want[c.out : c.out+3*c.n])
	clear(want[c.outKeep : c.outKeep+3*c.n])
	for i := range c.n {
		if words[c.keep+i]%2 == 0 {
			continue
		}
		made, there := became(full, words[c.points+i])
		for j := range made {
			want[c.out+3*i+j] = made[j]
			if there[j] {
				want[c.outKeep+3*i+j] = yes
			}
		}
	}
	return want
}

// expectDone expands, with no word to be taken, and holds all words, the answer and what was noted against what they should be.
func expectDone(t *testing.T, full seek.Table, words []uint32, c call) []api.Event {
	t.Helper()
	a := filled(t, words, 0)
	from := a.Log().Len()
	if !c.on(a, full) {
		t.Fatalf("%v is refused", c)
	}
	events := a.Log().Events()[from:]
	want := c.expanded(full, words)
	if got := a.Show(0, len(words)); !slices.Equal(got, want) {
		t.Fatalf("%v: %X became %X, want %X", c, words, got, want)
	}
	if cost := expand.Cost(c.n); len(events) != cost || cost != 8*c.n || a.Top() != len(words) {
		t.Errorf("%v: %d events, Cost %d; %d words taken, %d before", c, len(events), cost, a.Top(), len(words))
	}
	return events
}

// expectPoints expands points, in lanes that are in order and all there is. What stood in the out lanes is no matter.
func expectPoints(t *testing.T, full seek.Table, points, keep []uint32) []api.Event {
	t.Helper()
	n := len(points)
	words := slices.Concat(points, keep, slices.Repeat([]uint32{0xABCDEF77}, 6*n))
	return expectDone(t, full, words, call{0, n, n, 2 * n, 5 * n})
}

// expectAll expands points that are all kept, as many at once as may be.
func expectAll(t *testing.T, full seek.Table, points []uint32) {
	t.Helper()
	for some := range slices.Chunk(points, maxPoints) {
		expectPoints(t, full, some, slices.Repeat([]uint32{yes}, len(some)))
	}
}

// span is all points from first to last.
func span(first, last uint32) []uint32 {
	var all []uint32
	for p := first; p <= last; p++ {
		all = append(all, p)
	}
	return all
}

// odd is a table of all that the words of layer 6 let: keys that come twice, that have no row, a row of none, of fewer words and of more, with 0 in it, and that are syllables.
func odd() seek.Table {
	return seek.Table{
		Keys: []uint32{5, 6, 7, 8, 5, 0xAC01, 9, 10, 0, yes, 0x1100, 11},
		Rows: [][]uint32{{1, 0, 2, 77}, {0, 0, 9}, {3}, {0, 4, 0, 5, 6}, {4, 8}, {1, 2, 3}, {}, {0, 0, 0, 1}, {0, 6, yes}, {yes, yes, yes}, {12, 0, 0}},
	}
}

// drawnPoint answers a key of a table, a syllable, a point, or any word.
func drawnPoint(draw *rand.Rand, full seek.Table) uint32 {
	switch draw.Intn(4) {
	case 0:
		if len(full.Keys) > 0 {
			return full.Keys[draw.Intn(len(full.Keys))]
		}
		return uint32(draw.Intn(14))
	case 1:
		return 0xABF0 + uint32(draw.Intn(0xD7B3-0xABF0))
	case 2:
		return uint32(draw.Intn(0x3000))
	}
	return draw.Uint32()
}

// drawnLanes answers n points, and a keep lane that keeps none, few, half, most or all of them.
func drawnLanes(draw *rand.Rand, full seek.Table, n int) (points, keep []uint32) {
	points, keep = make([]uint32, n), make([]uint32, n)
	often := []int{0, 1, 4, 7, 8}[draw.Intn(5)]
	for i := range n {
		points[i] = drawnPoint(draw, full)
		keep[i] = draw.Uint32() &^ 1
		if draw.Intn(8) < often {
			keep[i] |= 1
		}
	}
	return points, keep
}

// tablesOf are those that the charts come to, those with oddities, and an empty one.
func tablesOf() []seek.Table {
	x := tables.New()
	return []seek.Table{x.Full(false), x.Full(true), odd(), {}}
}

func TestExample(t *testing.T) {
	a := filled(t, []uint32{0xAC01, 1, 9, 9, 9, 9, 9, 9}, 0)
	if !(call{0, 1, 1, 2, 5}).on(a, seek.Table{}) {
		t.Fatal("refused")
	}
	if got := a.Show(0, 8); !slices.Equal(got, []uint32{0xAC01, 1, 0x1100, 0x1161, 0x11A8, yes, yes, yes}) {
		t.Errorf("%X", got)
	}
}

func TestWordsOfARow(t *testing.T) {
	for _, c := range []struct {
		point uint32
		words [3]uint32
		masks [3]uint32
	}{
		{5, [3]uint32{5, 8, 2}, [3]uint32{yes, yes, yes}},
		{6, [3]uint32{0, 0, 9}, [3]uint32{0, 0, yes}},
		{7, [3]uint32{3, 0, 0}, [3]uint32{yes, 0, 0}},
		{8, [3]uint32{0, 4, 0}, [3]uint32{0, yes, 0}},
		{9, [3]uint32{}, [3]uint32{}},
		{10, [3]uint32{}, [3]uint32{}},
		{11, [3]uint32{}, [3]uint32{}},
		{0, [3]uint32{0, 6, yes}, [3]uint32{0, yes, yes}},
		{yes, [3]uint32{yes, yes, yes}, [3]uint32{yes, yes, yes}},
		{0x1100, [3]uint32{12, 0, 0}, [3]uint32{yes, 0, 0}},
		{0xAC01, [3]uint32{0x1100, 0x1161, 0x11A8}, [3]uint32{yes, yes, yes}},
		{0xAC00, [3]uint32{0x1100, 0x1161, 0}, [3]uint32{yes, yes, 0}},
		{4, [3]uint32{4, 0, 0}, [3]uint32{yes, 0, 0}},
		{12, [3]uint32{12, 0, 0}, [3]uint32{yes, 0, 0}},
		{77, [3]uint32{77, 0, 0}, [3]uint32{yes, 0, 0}},
		{yes - 1, [3]uint32{yes - 1, 0, 0}, [3]uint32{yes, 0, 0}},
	} {
		for _, keep := range []uint32{1, yes, 7} {
			a := filled(t, []uint32{c.point, keep, 9, 9, 9, 9, 9, 9}, 0)
			if !(call{0, 1, 1, 2, 5}).on(a, odd()) {
				t.Fatal("refused")
			}
			if words, masks := a.Show(2, 3), a.Show(5, 3); !slices.Equal(words, c.words[:]) || !slices.Equal(masks, c.masks[:]) {
				t.Errorf("%X, keep %X: %X, %X", c.point, keep, words, masks)
			}
		}
		for _, keep := range []uint32{0, 2, yes - 1, 1 << 31} {
			a := filled(t, []uint32{c.point, keep, 9, 9, 9, 9, 9, 9}, 0)
			if !(call{0, 1, 1, 2, 5}).on(a, odd()) {
				t.Fatal("refused")
			}
			if got := a.Show(2, 6); !slices.Equal(got, make([]uint32, 6)) {
				t.Errorf("%X, keep %X: %X", c.point, keep, got)
			}
		}
	}
}

// TestAPointThatStays holds that a point which becomes nothing else is there, even if it is 0.
func TestAPointThatStays(t *testing.T) {
	for _, full := range []seek.Table{{}, {Keys: []uint32{3}, Rows: [][]uint32{{0, 0, 0}}}, {Rows: [][]uint32{{5, 6, 7}}}} {
		for _, p := range []uint32{0, 1, 0xABFF, 0xD7A4, 0x10FFFF, 0x110000, 1<<31 | 0x2C00, yes} {
			a := filled(t, []uint32{p, 1, 9, 9, 9, 9, 9, 9}, 0)
			if !(call{0, 1, 1, 2, 5}).on(a, full) {
				t.Fatal("refused")
			}
			if got := a.Show(2, 6); !slices.Equal(got, []uint32{p, 0, 0, yes, 0, 0}) {
				t.Errorf("%X: %X", p, got)
			}
		}
	}
}

// TestKeysWithNoRowAtAll holds that a key without any row is a key all the same: what it becomes is nothing.
func TestKeysWithNoRowAtAll(t *testing.T) {
	for _, full := range []seek.Table{
		{Keys: []uint32{0, 0x41, 0xAC01}},
		{Keys: []uint32{0, 0x41, 0xAC01}, Rows: [][]uint32{{}, {1, 2, 3}, {1, 2, 3}}},
		{Keys: []uint32{0x42, 0, 0x41, 0xAC01}, Rows: [][]uint32{{}}},
	} {
		expectAll(t, full, []uint32{0, 0x41, 0xAC01, 0x42, 0x43, yes})
	}
}

// TestRowsOfFewerWordsAndOfMore holds that three words of each point are made, however long the rows are.
func TestRowsOfFewerWordsAndOfMore(t *testing.T) {
	for width := range 9 {
		full := seek.Table{Keys: []uint32{0x41, 0x42, 0x43}}
		for i := range full.Keys {
			row := make([]uint32, width)
			for j := range row {
				row[j] = uint32(10*i + j)
			}
			full.Rows = append(full.Rows, row)
		}
		expectAll(t, full, []uint32{0x40, 0x41, 0x42, 0x43, 0x44, 0xAC02})
	}
}

func TestAllSyllables(t *testing.T) {
	syllables := span(0xAC00-40, 0xD7A3+40)
	expectAll(t, seek.Table{}, syllables)
	expectAll(t, odd(), syllables)
}

// TestPointsOfTheCharts goes over all points that become something, what stands beside them, and the points of all rows.
func TestPointsOfTheCharts(t *testing.T) {
	for _, full := range tablesOf() {
		var all []uint32
		for _, p := range full.Keys {
			all = append(all, p-1, p, p+1, p|1<<31)
		}
		for _, row := range full.Rows {
			all = append(all, row...)
		}
		expectAll(t, full, all)
	}
}

// TestEveryKeepLane holds all keep lanes of a few points.
func TestEveryKeepLane(t *testing.T) {
	points := []uint32{5, 0xAC01, 0x41, 0, 8, 9}
	for n := range len(points) + 1 {
		for lane := range 1 << n {
			keep := make([]uint32, n)
			for i := range keep {
				keep[i] = uint32(lane>>i)&1 | 0xF0
			}
			expectPoints(t, odd(), points[:n], keep)
		}
	}
}

// TestLanesAnywhere holds lanes in any order, with other words between and about them.
func TestLanesAnywhere(t *testing.T) {
	draw := rand.New(rand.NewSource(1))
	for _, full := range tablesOf() {
		for range 300 {
			n := draw.Intn(8)
			sizes, at, next := []int{n, n, 3 * n, 3 * n}, make([]int, 4), draw.Intn(4)
			for _, lane := range draw.Perm(4) {
				at[lane] = next
				next += sizes[lane] + draw.Intn(3)
			}
			words := make([]uint32, next)
			for i := range words {
				words[i] = drawnPoint(draw, full)
			}
			expectDone(t, full, words, call{at[0], at[1], n, at[2], at[3]})
		}
	}
}

// TestTheTableStays holds that what is handed in is neither changed nor kept.
func TestTheTableStays(t *testing.T) {
	full := odd()
	points := []uint32{5, 6, 7, 8, 9, 0, yes, 0xAC01}
	expectAll(t, full, points)
	want := odd()
	if !slices.Equal(full.Keys, want.Keys) || !slices.EqualFunc(full.Rows, want.Rows, slices.Equal[[]uint32]) {
		t.Errorf("%v became %v", want, full)
	}
	full.Keys[0], full.Rows[1][2] = 12, 3
	expectAll(t, full, points)
}

// TestTheSameEventsOfOtherWords holds P12.2.
func TestTheSameEventsOfOtherWords(t *testing.T) {
	draw := rand.New(rand.NewSource(2))
	for _, full := range tablesOf() {
		for _, n := range []int{0, 1, 2, 3, 7, 50, 200} {
			zeros, ones := make([]uint32, n), slices.Repeat([]uint32{yes}, n)
			want := expectPoints(t, full, zeros, zeros)
			expectSame := func(points, keep []uint32) {
				if got := expectPoints(t, full, points, keep); !slices.Equal(got, want) {
					t.Fatalf("%d points: other words, other events", n)
				}
			}
			expectSame(ones, ones)
			expectSame(zeros, ones)
			expectSame(ones, zeros)
			expectSame(slices.Repeat([]uint32{0xAC01}, n), ones)
			expectSame(slices.Repeat([]uint32{0x1D5}, n), ones)
			for range 6 {
				expectSame(drawnLanes(draw, full, n))
			}
		}
	}
}

// TestWhichWordsAreReadAndWritten holds that each point and its keep word are read once, and each word of the out lanes is written once.
func TestWhichWordsAreReadAndWritten(t *testing.T) {
	draw := rand.New(rand.NewSource(3))
	for _, full := range tablesOf() {
		points, keep := drawnLanes(draw, full, 30)
		times := map[api.Event]int{}
		for _, e := range expectPoints(t, full, points, keep) {
			times[e]++
		}
		for at := range 8 * 30 {
			e := api.Event{Kind: api.Load, Index: at}
			if at >= 60 {
				e.Kind = api.Store
			}
			if times[e] != 1 {
				t.Errorf("%v is noted %d times", e, times[e])
			}
		}
	}
}

// TestTheMost holds that as many points as may be are expanded.
func TestTheMost(t *testing.T) {
	draw := rand.New(rand.NewSource(4))
	for _, full := range tablesOf() {
		for _, n := range []int{maxPoints - 1, maxPoints} {
			points, keep := drawnLanes(draw, full, n)
			expectPoints(t, full, points, keep)
		}
	}
}

// expectRefused holds that false is answered, and nothing is done.
func expectRefused(t *testing.T, a *arena.Arena, c call) {
	t.Helper()
	top, before := a.Top(), a.Log().Events()
	if c.on(a, odd()) {
		t.Errorf("%v is done", c)
	}
	if a.Top() != top || !slices.Equal(a.Log().Events(), before) {
		t.Errorf("%v: something is done", c)
	}
}

func TestRefused(t *testing.T) {
	words := slices.Repeat([]uint32{0x1D5, 5, 0xAC01, 1, 3}, 5)
	a := filled(t, words, 500)
	for _, n := range []int{math.MinInt, -1, 4, maxPoints, maxPoints + 1, math.MaxInt / 3, math.MaxInt/3 + 1, math.MaxInt} {
		expectRefused(t, a, call{0, 3, n, 6, 15})
	}
	for _, at := range []int{math.MinInt, -3, -1, 23, 24, 25, 26, math.MaxInt} {
		expectRefused(t, a, call{at, 3, 3, 6, 15})
		expectRefused(t, a, call{0, at, 3, 6, 15})
	}
	for _, at := range []int{math.MinInt, -9, -1, 17, 24, 25, 26, math.MaxInt} {
		expectRefused(t, a, call{0, 3, 3, at, 6})
		expectRefused(t, a, call{0, 3, 3, 6, at})
	}
	if got := a.Show(0, len(words)); !slices.Equal(got, words) {
		t.Error(got)
	}
}

// TestLanesThatMeet holds all places of four lanes of one or two points: they are let if, and only if, no two have a word in common.
func TestLanesThatMeet(t *testing.T) {
	for _, n := range []int{1, 2} {
		size := 8*n + 1
		words := slices.Repeat([]uint32{5}, size)
		a := filled(t, words, 10)
		for points := range size - n + 1 {
			for keep := range size - n + 1 {
				for out := range size - 3*n + 1 {
					for outKeep := range size - 3*n + 1 {
						c := call{points, keep, n, out, outKeep}
						if c.apart(size) {
							expectDone(t, odd(), words, c)
						} else if c.on(a, odd()) {
							t.Fatalf("%v is done", c)
						}
					}
				}
			}
		}
		if a.Log().Len() != 1+size {
			t.Error("something was noted")
		}
		if got := a.Show(0, size); !slices.Equal(got, words) {
			t.Error(got)
		}
	}
}

// apart marks the words of all lanes one by one, and tells whether none is marked twice.
func (c call) apart(size int) bool {
	marked := make([]bool, size)
	for _, lane := range [][2]int{{c.points, c.n}, {c.keep, c.n}, {c.out, 3 * c.n}, {c.outKeep, 3 * c.n}} {
		for at := lane[0]; at < lane[0]+lane[1]; at++ {
			if marked[at] {
				return false
			}
			marked[at] = true
		}
	}
	return true
}

// TestOfNone holds that lanes of no words are within up to Top, and have no word in common.
func TestOfNone(t *testing.T) {
	words := []uint32{1, 2, 3}
	for at := range 4 {
		expectDone(t, odd(), words, call{at, at, 0, at, at})
		expectDone(t, odd(), words, call{0, 3, 0, at, 1})
	}
	expectDone(t, odd(), nil, call{})
	for _, at := range []int{math.MinInt, -1, 4, math.MaxInt} {
		expectRefused(t, filled(t, words, 9), call{at, 0, 0, 0, 0})
		expectRefused(t, filled(t, words, 9), call{0, at, 0, 0, 0})
		expectRefused(t, filled(t, words, 9), call{0, 0, 0, at, 0})
		expectRefused(t, filled(t, words, 9), call{0, 0, 0, 0, at})
	}
}

// TestMoreThanTheMost holds that too great an n is refused where there is room for it.
func TestMoreThanTheMost(t *testing.T) {
	n := maxPoints + 1
	a := filled(t, make([]uint32, 8*n), 8*n)
	expectRefused(t, a, call{0, n, n, 2 * n, 5 * n})
}

func TestNoArena(t *testing.T) {
	for _, n := range []int{math.MinInt, -1, 0, 1, maxPoints, maxPoints + 1} {
		expectRefused(t, nil, call{0, 0, n, 0, 0})
		expectRefused(t, nil, call{0, n, n, 2 * n, 5 * n})
	}
	expectRefused(t, new(arena.Arena), call{0, 1, 1, 2, 5})
	expectDone(t, odd(), nil, call{})
}

func TestCost(t *testing.T) {
	for n, want := range map[int]int{
		math.MinInt: 0, -maxPoints: 0, -1: 0, 0: 0, 1: 8, 2: 16, 100: 800, maxPoints - 1: 32760, maxPoints: 32768,
		maxPoints + 1: 0, 2 * maxPoints: 0, math.MaxInt/8 + 1: 0, math.MaxInt: 0,
	} {
		if got := expand.Cost(n); got != want {
			t.Errorf("Cost of %d: %d", n, got)
		}
	}
}

// TestNothingIsTold holds by the source, since no answer shows it, that no word is told or asked on the way.
func TestNothingIsTold(t *testing.T) {
	entries, err := os.ReadDir(".")
	if err != nil {
		t.Fatal(err)
	}
	for _, e := range entries {
		name := e.Name()
		if !strings.HasSuffix(name, ".go") || strings.HasSuffix(name, "_test.go") {
			continue
		}
		file, err := parser.ParseFile(token.NewFileSet(), name, nil, 0)
		if err != nil {
			t.Fatal(err)
		}
		ast.Inspect(file, func(n ast.Node) bool {
			if s, ok := n.(*ast.SelectorExpr); ok && slices.Contains([]string{"Release", "Show", "Events", "Blank"}, s.Sel.Name) {
				t.Errorf("%s calls %s", name, s.Sel.Name)
			}
			return true
		})
	}
}
