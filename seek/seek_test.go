package seek_test

import (
	"go/ast"
	"go/parser"
	"go/token"
	"math"
	"math/rand"
	"slices"
	"testing"

	"sabretache/api"
	"sabretache/ct"
	"sabretache/seek"
)

const (
	yes = uint32(math.MaxUint32)
	top = uint32(math.MaxUint32)
)

func value(s ct.Sec) uint32 {
	return ct.NewLog().Release(s)
}

func values(l []ct.Sec) []uint32 {
	told := make([]uint32, len(l))
	for i, s := range l {
		told[i] = value(s)
	}
	return told
}

func mask(is bool) uint32 {
	if is {
		return yes
	}
	return 0
}

func span(first, last uint32) api.Span {
	return api.Span{First: first, Last: last}
}

func run(first, last, to uint32) seek.Run {
	return seek.Run{Span: span(first, last), To: to}
}

func weight(first, last, n uint32) seek.Weight {
	return seek.Weight{Span: span(first, last), N: n}
}

func has(s api.Span, x uint32) bool {
	return s.First <= x && x <= s.Last
}

// The models go at it by branches, which the package may not.

func findModel(t seek.Table, key uint32) ([]uint32, uint32) {
	var words []uint32
	if len(t.Rows) > 0 {
		words = make([]uint32, len(t.Rows[0]))
	}
	found := slices.Contains(t.Keys, key)
	for j := range words {
		for i, k := range t.Keys {
			if k == key && i < len(t.Rows) && j < len(t.Rows[i]) {
				words[j] |= t.Rows[i][j]
			}
		}
	}
	return words, mask(found)
}

func mapModel(l []seek.Run, x uint32) (uint32, uint32) {
	for _, r := range slices.Backward(l) {
		if has(r.Span, x) {
			return uint32((uint64(r.To) + uint64(x-r.First)) % (1 << 32)), yes
		}
	}
	return x, 0
}

func classModel(l []seek.Weight, x uint32) uint32 {
	var class uint32
	for _, w := range l {
		if has(w.Span, x) {
			class |= w.N
		}
	}
	return class
}

func twoModel(l []seek.Pair, a, b uint32) (uint32, uint32) {
	var to, found uint32
	for _, p := range l {
		if p.A == a && p.B == b {
			to, found = to|p.To, yes
		}
	}
	return to, found
}

func checkFind(t *testing.T, tab seek.Table, key uint32) {
	t.Helper()
	want, there := findModel(tab, key)
	words, found := seek.Find(tab, ct.Of(key))
	if !slices.Equal(values(words), want) || value(found) != there {
		t.Errorf("Find(%v, %d): %v, %x, and not %v, %x", tab, key, values(words), value(found), want, there)
	}
}

func checkIn(t *testing.T, l []api.Span, x uint32) {
	t.Helper()
	want := mask(slices.ContainsFunc(l, func(s api.Span) bool { return has(s, x) }))
	if got := value(seek.In(l, ct.Of(x))); got != want {
		t.Errorf("In(%v, %d): %x, and not %x", l, x, got, want)
	}
}

func checkMap(t *testing.T, l []seek.Run, x uint32) {
	t.Helper()
	want, there := mapModel(l, x)
	to, found := seek.Map(l, ct.Of(x))
	if value(to) != want || value(found) != there {
		t.Errorf("Map(%v, %d): %d, %x, and not %d, %x", l, x, value(to), value(found), want, there)
	}
}

func checkClass(t *testing.T, l []seek.Weight, x uint32) {
	t.Helper()
	want := classModel(l, x)
	if got := value(seek.Class(l, ct.Of(x))); got != want {
		t.Errorf("Class(%v, %d): %d, and not %d", l, x, got, want)
	}
}

func checkTwo(t *testing.T, l []seek.Pair, a, b uint32) {
	t.Helper()
	want, there := twoModel(l, a, b)
	to, found := seek.Two(l, ct.Of(a), ct.Of(b))
	if value(to) != want || value(found) != there {
		t.Errorf("Two(%v, %d, %d): %d, %x, and not %d, %x", l, a, b, value(to), value(found), want, there)
	}
}

func TestFindAnswersTheRowsOfAllKeysThatAreIt(t *testing.T) {
	tab := seek.Table{Keys: []uint32{4, 7, 4, 0, top}, Rows: [][]uint32{{1, 2}, {3, 3}, {8, 17}, {5, top}, {top, 6}}}
	for key, want := range map[uint32][2]uint32{4: {9, 19}, 7: {3, 3}, 0: {5, top}, top: {top, 6}} {
		words, found := seek.Find(tab, ct.Of(key))
		if !slices.Equal(values(words), want[:]) || value(found) != yes {
			t.Errorf("%d: %v, %x", key, values(words), value(found))
		}
	}
	for _, key := range []uint32{1, 3, 5, 6, 8, 1 << 31, top - 1} {
		words, found := seek.Find(tab, ct.Of(key))
		if !slices.Equal(values(words), []uint32{0, 0}) || value(found) != 0 {
			t.Errorf("%d: %v, %x", key, values(words), value(found))
		}
	}
}

func TestRowsCountAsBeingAsLongAsTheFirst(t *testing.T) {
	tab := seek.Table{Keys: []uint32{1, 2, 3, 4, 5, 2}, Rows: [][]uint32{{10, 11}, {20}, {30, 31, 32}, nil, {}, {1, 1, 1, 1}}}
	for key, want := range map[uint32][]uint32{1: {10, 11}, 2: {21, 1}, 3: {30, 31}, 4: {0, 0}, 5: {0, 0}, 6: {0, 0}} {
		words, found := seek.Find(tab, ct.Of(key))
		if !slices.Equal(values(words), want) || value(found) != mask(key != 6) {
			t.Errorf("%d: %v, %x", key, values(words), value(found))
		}
	}
	short := seek.Table{Keys: []uint32{1, 2}, Rows: [][]uint32{{}, {7, 8}}}
	if words, found := seek.Find(short, ct.Of(2)); len(words) != 0 || value(found) != yes {
		t.Errorf("a first row of no words: %v, %x", values(words), value(found))
	}
}

func TestKeysWithoutARowAndRowsWithoutAKey(t *testing.T) {
	few := seek.Table{Keys: []uint32{1, 2, 2}, Rows: [][]uint32{{5, 6, 7}}}
	if words, found := seek.Find(few, ct.Of(2)); !slices.Equal(values(words), []uint32{0, 0, 0}) || value(found) != yes {
		t.Errorf("keys without a row: %v, %x", values(words), value(found))
	}
	if words, found := seek.Find(seek.Table{Keys: []uint32{0}}, ct.Of(0)); len(words) != 0 || value(found) != yes {
		t.Errorf("no rows: %v, %x", values(words), value(found))
	}
	many := seek.Table{Keys: []uint32{1}, Rows: [][]uint32{{5}, {9}, {12}}}
	if words, found := seek.Find(many, ct.Of(1)); !slices.Equal(values(words), []uint32{5}) || value(found) != yes {
		t.Errorf("rows without a key: %v, %x", values(words), value(found))
	}
	if words, found := seek.Find(seek.Table{Rows: [][]uint32{{5, 6}}}, ct.Of(0)); !slices.Equal(values(words), []uint32{0, 0}) || value(found) != 0 {
		t.Errorf("no keys: %v, %x", values(words), value(found))
	}
	if words, found := seek.Find(seek.Table{}, ct.Of(0)); len(words) != 0 || value(found) != 0 {
		t.Errorf("nothing: %v, %x", values(words), value(found))
	}
}

func TestIn(t *testing.T) {
	l := []api.Span{span(5, 9), span(20, 10), span(8, 12), span(30, 30), span(top-1, top)}
	for x, want := range map[uint32]bool{
		0: false, 4: false, 5: true, 7: true, 9: true, 10: true, 12: true, 13: false, 15: false, 20: false, 21: false,
		29: false, 30: true, 31: false, 1 << 31: false, top - 2: false, top - 1: true, top: true,
	} {
		if got := value(seek.In(l, ct.Of(x))); got != mask(want) {
			t.Errorf("%d: %x", x, got)
		}
	}
	for _, x := range []uint32{0, 1, 1 << 31, top} {
		if got := value(seek.In(nil, ct.Of(x))); got != 0 {
			t.Errorf("no spans, %d: %x", x, got)
		}
		if got := value(seek.In([]api.Span{span(0, top)}, ct.Of(x))); got != yes {
			t.Errorf("all words, %d: %x", x, got)
		}
		if got := value(seek.In([]api.Span{span(top, 0), span(1, 0), span(top, top-1)}, ct.Of(x))); got != 0 {
			t.Errorf("spans of none, %d: %x", x, got)
		}
	}
}

func TestMapGoesByTheLastRun(t *testing.T) {
	l := []seek.Run{run(65, 90, 97), run(70, 72, 3), run(100, 200, top-1), run(71, 71, 71), run(50, 40, 9), run(300, 400, 10)}
	for x, want := range map[uint32]uint32{
		65: 97, 69: 101, 70: 3, 71: 71, 72: 5, 73: 105, 90: 122, 100: top - 1, 101: top, 102: 0, 200: 98, 300: 10, 400: 110,
	} {
		to, found := seek.Map(l, ct.Of(x))
		if value(to) != want || value(found) != yes {
			t.Errorf("%d: %d, %x", x, value(to), value(found))
		}
	}
	for _, x := range []uint32{0, 40, 45, 50, 64, 91, 99, 201, 299, 401, top} {
		to, found := seek.Map(l, ct.Of(x))
		if value(to) != x || value(found) != 0 {
			t.Errorf("%d: %d, %x", x, value(to), value(found))
		}
	}
}

// A word that became one is not looked for once more by what it became.
func TestMapLooksForTheWordItselfInEachRun(t *testing.T) {
	to, found := seek.Map([]seek.Run{run(1, 1, 2), run(2, 2, 3)}, ct.Of(1))
	if value(to) != 2 || value(found) != yes {
		t.Errorf("%d, %x", value(to), value(found))
	}
	for _, x := range []uint32{0, 7, top} {
		to, found := seek.Map(nil, ct.Of(x))
		if value(to) != x || value(found) != 0 {
			t.Errorf("no runs, %d: %d, %x", x, value(to), value(found))
		}
		to, found = seek.Map([]seek.Run{run(0, top, 5)}, ct.Of(x))
		if value(to) != x+5 || value(found) != yes {
			t.Errorf("all words, %d: %d, %x", x, value(to), value(found))
		}
	}
}

func TestClass(t *testing.T) {
	l := []seek.Weight{weight(5, 9, 6), weight(9, 9, 8), weight(8, 12, 3), weight(20, 10, 64), weight(top, top, top), weight(0, 0, 1<<31)}
	for x, want := range map[uint32]uint32{
		0: 1 << 31, 1: 0, 4: 0, 5: 6, 8: 7, 9: 15, 10: 3, 12: 3, 13: 0, 15: 0, 20: 0, top - 1: 0, top: top,
	} {
		if got := value(seek.Class(l, ct.Of(x))); got != want {
			t.Errorf("%d: %d", x, got)
		}
	}
	if got := value(seek.Class(nil, ct.Of(0))); got != 0 {
		t.Errorf("no spans: %d", got)
	}
}

func TestTwo(t *testing.T) {
	l := []seek.Pair{{A: 1, B: 2, To: 5}, {A: 2, B: 1, To: 6}, {A: 1, B: 2, To: 8}, {A: 3, B: 3, To: 0}, {A: top, B: 0, To: top}}
	for _, c := range []struct{ a, b, to, found uint32 }{
		{1, 2, 13, yes}, {2, 1, 6, yes}, {3, 3, 0, yes}, {top, 0, top, yes},
		{1, 1, 0, 0}, {2, 2, 0, 0}, {3, 1, 0, 0}, {0, top, 0, 0}, {top, top, 0, 0}, {0, 0, 0, 0}, {5, 0, 0, 0},
	} {
		to, found := seek.Two(l, ct.Of(c.a), ct.Of(c.b))
		if value(to) != c.to || value(found) != c.found {
			t.Errorf("%d, %d: %d, %x", c.a, c.b, value(to), value(found))
		}
	}
	if to, found := seek.Two(nil, ct.Of(0), ct.Of(0)); value(to) != 0 || value(found) != 0 {
		t.Errorf("no pairs: %d, %x", value(to), value(found))
	}
}

// near answers a word out of few, from both ends and the middle of all words, so that tables meet what is looked for.
func near(r *rand.Rand) uint32 {
	return uint32(r.Intn(3))<<31 - uint32(r.Intn(3)) + uint32(r.Intn(6))
}

func lists[T any](r *rand.Rand, item func() T) []T {
	l := make([]T, r.Intn(7))
	for i := range l {
		l[i] = item()
	}
	return l
}

func TestTablesOfAllShapes(t *testing.T) {
	r := rand.New(rand.NewSource(6))
	word := func() uint32 { return near(r) }
	aSpan := func() api.Span { return span(word(), word()) }
	for range 3000 {
		x, y := word(), word()
		checkFind(t, seek.Table{Keys: lists(r, word), Rows: lists(r, func() []uint32 { return lists(r, word) })}, x)
		checkIn(t, lists(r, aSpan), x)
		checkMap(t, lists(r, func() seek.Run { return seek.Run{Span: aSpan(), To: word()} }), x)
		checkClass(t, lists(r, func() seek.Weight { return seek.Weight{Span: aSpan(), N: word()} }), x)
		checkTwo(t, lists(r, func() seek.Pair { return seek.Pair{A: word(), B: word(), To: word()} }), x, y)
	}
}

// A span from each of few words to each other one, held against each of them.
func TestSpansAtTheirEnds(t *testing.T) {
	words := []uint32{0, 1, 2, 1<<31 - 1, 1 << 31, 1<<31 + 1, top - 1, top}
	for _, first := range words {
		for _, last := range words {
			for _, x := range words {
				checkIn(t, []api.Span{span(first, last)}, x)
				checkMap(t, []seek.Run{run(first, last, 1<<31-1)}, x)
				checkClass(t, []seek.Weight{weight(first, last, 5)}, x)
				checkTwo(t, []seek.Pair{{A: first, B: last, To: 5}}, x, last)
				checkTwo(t, []seek.Pair{{A: first, B: last, To: 5}}, first, x)
			}
		}
	}
}

// As long tables as the charts come to, with what is looked for at each end.
func TestLongTables(t *testing.T) {
	const n = 20000
	tab := seek.Table{Keys: make([]uint32, n), Rows: make([][]uint32, n)}
	spans := make([]api.Span, n)
	for i := range n {
		tab.Keys[i], tab.Rows[i] = uint32(3*i), []uint32{uint32(i), uint32(i + 1)}
		spans[i] = span(uint32(3*i), uint32(3*i+1))
	}
	for _, x := range []uint32{0, 1, 2, 3*n - 3, 3*n - 2, 3*n - 1, 3 * n} {
		checkFind(t, tab, x)
		checkIn(t, spans, x)
	}
}

func TestArgumentsAreLeftAsTheyAre(t *testing.T) {
	tab := seek.Table{Keys: []uint32{4, 7, 4}, Rows: [][]uint32{{1, 2}, {3}, {8, 16, 32}}}
	first, _ := seek.Find(tab, ct.Of(4))
	first[0], first[1] = ct.Of(99), ct.Of(98)
	if !slices.Equal(tab.Keys, []uint32{4, 7, 4}) || !slices.EqualFunc(tab.Rows, [][]uint32{{1, 2}, {3}, {8, 16, 32}}, slices.Equal) {
		t.Errorf("the table has become %v", tab)
	}
	second, _ := seek.Find(tab, ct.Of(4))
	if !slices.Equal(values(second), []uint32{9, 18}) || value(first[0]) != 99 {
		t.Errorf("two answers share words: %v, %v", values(first), values(second))
	}
	tab.Rows[0][0] = 64
	if value(second[0]) != 9 {
		t.Errorf("an answer hangs on the table behind the call: %v", values(second))
	}
	spans, runs := []api.Span{span(1, 2)}, []seek.Run{run(1, 2, 3)}
	weights, pairs := []seek.Weight{weight(1, 2, 3)}, []seek.Pair{{A: 1, B: 2, To: 3}}
	x := ct.Of(1)
	seek.In(spans, x)
	seek.Map(runs, x)
	seek.Class(weights, x)
	seek.Two(pairs, x, x)
	if spans[0] != span(1, 2) || runs[0] != run(1, 2, 3) || weights[0] != weight(1, 2, 3) || pairs[0] != (seek.Pair{A: 1, B: 2, To: 3}) || value(x) != 1 {
		t.Errorf("arguments have become %v %v %v %v %d", spans, runs, weights, pairs, value(x))
	}
}

// Where no word is opened, no branch and no end of a loop can hang on one: all of a table is gone through. No answer shows that, so the source is asked.
func TestNoWordIsOpened(t *testing.T) {
	file, err := parser.ParseFile(token.NewFileSet(), "seek.go", nil, 0)
	if err != nil {
		t.Fatal(err)
	}
	ast.Inspect(file, func(n ast.Node) bool {
		if s, ok := n.(*ast.SelectorExpr); ok && slices.Contains([]string{"Release", "Released", "Events", "Blank"}, s.Sel.Name) {
			t.Errorf("seek.go calls %s", s.Sel.Name)
		}
		return true
	})
}
