package utf_test

import (
	"math"
	"math/rand"
	"slices"
	"testing"
	"unicode/utf8"

	"sabretache/api"
	"sabretache/arena"
	"sabretache/ct"
	"sabretache/utf"
)

const yes = uint32(math.MaxUint32)

// lanes are the places of the three.
type lanes struct {
	in, out, keep int
}

func value(s ct.Sec) uint32 {
	return ct.NewLog().Release(s)
}

// filled has these words taken, and no more to be taken.
func filled(t *testing.T, words []uint32) *arena.Arena {
	t.Helper()
	a := arena.New(len(words))
	if _, ok := a.Take(len(words)); !ok || !a.Put(0, words) {
		t.Fatalf("no arena of %d words", len(words))
	}
	return a
}

// decoded is what is to stand in the out lane and in the keep lane, and what is to be answered: by the library's own reading of UTF-8.
func decoded(in []uint32, length uint32) (out, keep []uint32, bad uint32) {
	out, keep = make([]uint32, len(in)), make([]uint32, len(in))
	text := make([]byte, min(uint64(length), uint64(len(in))))
	for i := range text {
		text[i] = byte(in[i])
	}
	if !utf8.Valid(text) {
		return out, keep, yes
	}
	for i, r := range string(text) {
		last := i + utf8.RuneLen(r) - 1
		out[last], keep[last] = uint32(r), yes
	}
	return out, keep, 0
}

// expectDone decodes, and holds all words, the answer and what was noted against what they should be.
func expectDone(t *testing.T, words []uint32, l lanes, n int, length uint32) []api.Event {
	t.Helper()
	a := filled(t, words)
	from := a.Log().Len()
	bad, ok := utf.Decode(a, l.in, n, ct.Of(length), l.out, l.keep)
	events := a.Log().Events()[from:]
	want := slices.Clone(words)
	out, keep, wrong := decoded(words[l.in:l.in+n], length)
	copy(want[l.out:], out)
	copy(want[l.keep:], keep)
	if !ok || value(bad) != wrong {
		t.Fatalf("%v, %d bytes of %d in %X: %X, %v, want %X", l, length, n, words, value(bad), ok, wrong)
	}
	if got := a.Show(0, len(words)); !slices.Equal(got, want) {
		t.Fatalf("%v, %d bytes of %d: %X became %X, want %X", l, length, n, words, got, want)
	}
	if len(events) != 7*n || utf.Cost(n) != 7*n || a.Top() != len(words) {
		t.Errorf("%d bytes: %d events, Cost %d; %d words taken, %d before", n, len(events), utf.Cost(n), a.Top(), len(words))
	}
	return events
}

// expectText decodes a text whose lanes, in order, are all there is; what stands in the others ahead of it is no matter.
func expectText(t *testing.T, text string, length uint32) []api.Event {
	t.Helper()
	n := len(text)
	words := slices.Repeat([]uint32{0xABCDEF77}, 3*n)
	for i := range n {
		words[i] = uint32(text[i])
	}
	return expectDone(t, words, lanes{0, n, 2 * n}, n, length)
}

// drawnText answers n bytes: of the code points of a drawn text, some of which are changed.
func drawnText(draw *rand.Rand, n int) []byte {
	var text []byte
	for len(text) < n {
		text = utf8.AppendRune(text, rune(draw.Intn(1<<[]int{7, 11, 16, 21}[draw.Intn(4)])))
	}
	text = text[:n]
	if n > 0 && draw.Intn(2) == 0 {
		text[draw.Intn(n)] = byte(draw.Intn(256))
	}
	return text
}

// drawnWords answers n words of any bits.
func drawnWords(draw *rand.Rand, n int) []uint32 {
	words := make([]uint32, n)
	for i := range words {
		words[i] = draw.Uint32()
	}
	return words
}

func TestTheExample(t *testing.T) {
	a := filled(t, []uint32{0xC3, 0xA4, 9, 9, 9, 9})
	bad, ok := utf.Decode(a, 0, 2, ct.Of(2), 2, 4)
	if !ok || value(bad) != 0 || !slices.Equal(a.Show(0, 6), []uint32{0xC3, 0xA4, 0, 0xE4, 0, yes}) {
		t.Errorf("%X, %v: %X", value(bad), ok, a.Show(0, 6))
	}
}

// TestWhatIsWrittenDown holds texts at the bounds of RFC 3629, by points written down, not by the model.
func TestWhatIsWrittenDown(t *testing.T) {
	for text, want := range map[string][]uint32{
		"":                                nil,
		"\x00":                            {0},
		"\x7F":                            {0x7F},
		"\xC2\x80":                        {0, 0x80},
		"\xDF\xBF":                        {0, 0x7FF},
		"\xE0\xA0\x80":                    {0, 0, 0x800},
		"\xEC\xBF\xBF":                    {0, 0, 0xCFFF},
		"\xED\x80\x80":                    {0, 0, 0xD000},
		"\xED\x9F\xBF":                    {0, 0, 0xD7FF},
		"\xEE\x80\x80":                    {0, 0, 0xE000},
		"\xEF\xBB\xBF":                    {0, 0, 0xFEFF},
		"\xEF\xBF\xBF":                    {0, 0, 0xFFFF},
		"\xF0\x90\x80\x80":                {0, 0, 0, 0x10000},
		"\xF0\xBF\xBF\xBF":                {0, 0, 0, 0x3FFFF},
		"\xF1\x80\x80\x80":                {0, 0, 0, 0x40000},
		"\xF3\xBF\xBF\xBF":                {0, 0, 0, 0xFFFFF},
		"\xF4\x80\x80\x80":                {0, 0, 0, 0x100000},
		"\xF4\x8F\xBF\xBF":                {0, 0, 0, 0x10FFFF},
		"a\xC3\xA4\xE2\x82\xACb\xC2\xA7c": {0x61, 0, 0xE4, 0, 0, 0x20AC, 0x62, 0, 0xA7, 0x63},
	} {
		n := len(text)
		words := make([]uint32, 3*n)
		for i := range n {
			words[i] = uint32(text[i])
		}
		a := filled(t, words)
		bad, ok := utf.Decode(a, 0, n, ct.Of(uint32(n)), n, 2*n)
		if out := a.Show(n, n); !ok || value(bad) != 0 || !slices.Equal(out, want) {
			t.Errorf("%X: %X, %X, %v", text, out, value(bad), ok)
		}
	}
}

// TestNoUtf8 holds that both lanes are all 0, of what stands ahead of the fault and behind it too.
func TestNoUtf8(t *testing.T) {
	for _, text := range []string{
		"\x80", "\xBF", "\xC0\x80", "\xC1\xBF", "\xC2\x7F", "\xC2\xC0", "\xDF\xFF", "\xC2", "\xDF",
		"\xE0\x80\x80", "\xE0\x9F\xBF", "\xE0\xC0\x80", "\xE1\x7F\x80", "\xE1\xC0\x80", "\xE1\x80\x7F", "\xE1\x80\xC0", "\xE1\x80", "\xE1",
		"\xED\xA0\x80", "\xED\xBF\xBF", "\xED\x7F\x80", "\xEE\x7F\x80", "\xEF\xC0\x80", "\xEF\xBF",
		"\xF0\x80\x80\x80", "\xF0\x8F\xBF\xBF", "\xF0\xC0\x80\x80", "\xF1\x7F\x80\x80", "\xF3\xC0\x80\x80", "\xF1\x80\xC0\x80", "\xF1\x80\x80\x7F",
		"\xF4\x90\x80\x80", "\xF4\x7F\x80\x80", "\xF4\x80\x80", "\xF4\x80", "\xF4", "\xF5\x80\x80\x80", "\xF8\x88\x80\x80\x80", "\xFE", "\xFF",
		"\xC3\xA4\xA4", "\xE2\x82\xAC\x80", "\xF0\x90\x80\x80\x80", "\xC3\xC3\xA4",
	} {
		for _, whole := range []string{text, "a" + text, text + "a", "\u20AC" + text + "\u00E4b"} {
			n := len(whole)
			words := slices.Repeat([]uint32{5}, 3*n)
			for i := range n {
				words[i] = uint32(whole[i])
			}
			a := filled(t, words)
			bad, ok := utf.Decode(a, 0, n, ct.Of(uint32(n)), n, 2*n)
			if rest := a.Show(n, 2*n); !ok || value(bad) != yes || !slices.Equal(rest, make([]uint32, 2*n)) {
				t.Errorf("%X: %X, %X, %v", whole, rest, value(bad), ok)
			}
		}
	}
}

// TestEveryPoint goes over all points that UTF-8 may write in up to three bytes, and every 37th of those above.
func TestEveryPoint(t *testing.T) {
	var row []byte
	end := func() {
		expectText(t, string(row), uint32(len(row)))
		row = row[:0]
	}
	for r, step := rune(0), rune(1); r <= utf8.MaxRune; r += step {
		if r == 0x10000 {
			step = 37
		}
		// What is no point is written as FFFD.
		if row = utf8.AppendRune(row, r); len(row) > 200 {
			end()
		}
	}
	end()
}

// TestEveryRowOfEdges goes over all rows of up to two bytes, and all of three and four of those bytes at which something changes.
func TestEveryRowOfEdges(t *testing.T) {
	expectText(t, "", 0)
	all := make([]byte, 256)
	for i := range all {
		all[i] = byte(i)
	}
	starts := []byte{0x7F, 0x80, 0xC1, 0xC2, 0xDF, 0xE0, 0xE1, 0xEC, 0xED, 0xEE, 0xEF, 0xF0, 0xF1, 0xF3, 0xF4, 0xF5, 0xFF}
	edges := []byte{0x00, 0x7F, 0x80, 0x8F, 0x90, 0x9F, 0xA0, 0xBF, 0xC0, 0xC2, 0xE1, 0xF1}
	for _, sets := range [][][]byte{{all}, {all, all}, {starts, edges, edges}, {starts, edges, edges, edges}} {
		expectRows(t, "", sets)
	}
}

// expectRows decodes each row of a byte of each set, behind those that are given.
func expectRows(t *testing.T, ahead string, sets [][]byte) {
	t.Helper()
	if len(sets) == 0 {
		expectText(t, ahead, uint32(len(ahead)))
		return
	}
	for _, b := range sets[0] {
		expectRows(t, ahead+string([]byte{b}), sets[1:])
	}
}

// TestLengths holds that so many bytes count as length says: what stands behind them is no matter, and may not be waited for either.
func TestLengths(t *testing.T) {
	for _, text := range []string{"", "a", "\u00E4", "a\u00E4", "\u20ACx\u00E4", "\U0001F600\U0010FFFF", "ab\xFF\u00E4", "\xFF\xFF", "a\xC3", "\x00\x00\x00"} {
		for length := range uint32(len(text) + 3) {
			expectText(t, text, length)
		}
		for _, length := range []uint32{255, 256, api.MaxCap, 1<<16 + 1, math.MaxInt32, 1 << 31, 1<<31 + 1, yes - 1, yes} {
			expectText(t, text, length)
		}
	}
}

// TestTheLowestEightBitsCount holds that other bits of a word change nothing.
func TestTheLowestEightBitsCount(t *testing.T) {
	for _, high := range []uint32{0x100, 0xFFFFFF00, 1 << 31, 0x00FF0000} {
		in := []uint32{0x61, 0xC3, 0xA4, 0xF0, 0x9F, 0x98, 0x80}
		for i := range in {
			in[i] |= high
		}
		a := filled(t, append(in, make([]uint32, 14)...))
		bad, ok := utf.Decode(a, 0, 7, ct.Of(7), 7, 14)
		if out := a.Show(7, 7); !ok || value(bad) != 0 || !slices.Equal(out, []uint32{0x61, 0, 0xE4, 0, 0, 0, 0x1F600}) {
			t.Errorf("%X: %X, %X, %v", high, out, value(bad), ok)
		}
	}
}

// TestDrawnLanes holds that lanes may stand in any order, with words between them that stay as they are.
func TestDrawnLanes(t *testing.T) {
	draw := rand.New(rand.NewSource(1))
	for range 4000 {
		n, gap := draw.Intn(40), draw.Intn(3)
		at := draw.Perm(3)
		for i := range at {
			at[i] = gap + at[i]*(n+gap)
		}
		words := drawnWords(draw, gap+3*(n+gap))
		for i, b := range drawnText(draw, n) {
			words[at[0]+i] = words[at[0]+i]&^0xFF | uint32(b)
		}
		expectDone(t, words, lanes{at[0], at[1], at[2]}, n, uint32(draw.Intn(n+4)))
	}
}

func TestTheMost(t *testing.T) {
	draw := rand.New(rand.NewSource(2))
	for _, length := range []uint32{0, 1, api.MaxCap - 1, api.MaxCap, api.MaxCap + 1, yes} {
		whole := slices.Repeat([]byte("a\u00E4b\U0001F600"), api.MaxCap/8)
		expectText(t, string(whole), length)
		whole[api.MaxCap-1] = 0xC3
		expectText(t, string(whole), length)
		expectText(t, string(drawnText(draw, api.MaxCap)), length)
	}
}

// TestWhatIsSeen holds that each word of the lanes, and no other place, is looked at, and nothing is told, taken or given back.
func TestWhatIsSeen(t *testing.T) {
	draw := rand.New(rand.NewSource(3))
	for n := range 20 {
		l := lanes{2*n + 3, 1, n + 2}
		looks := map[api.Event]int{}
		for _, e := range expectDone(t, drawnWords(draw, 3*n+5), l, n, uint32(n)) {
			looks[e]++
		}
		for i := range n {
			for e, times := range map[api.Event]int{
				{Kind: api.Load, Index: l.in + i}:    1,
				{Kind: api.Load, Index: l.out + i}:   1,
				{Kind: api.Load, Index: l.keep + i}:  1,
				{Kind: api.Store, Index: l.out + i}:  2,
				{Kind: api.Store, Index: l.keep + i}: 2,
			} {
				if looks[e] != times {
					t.Errorf("%d bytes: %v is noted %d times, want %d", n, e, looks[e], times)
				}
			}
		}
	}
}

// TestTheSameEventsOfOtherBytes holds P9.2.
func TestTheSameEventsOfOtherBytes(t *testing.T) {
	draw := rand.New(rand.NewSource(4))
	for _, n := range []int{0, 1, 2, 3, 4, 5, 8, 13, 40, 1000, api.MaxCap} {
		want := expectText(t, string(make([]byte, n)), uint32(n))
		for range 6 {
			wild := make([]byte, n)
			draw.Read(wild)
			for _, text := range []string{string(drawnText(draw, n)), string(wild), string(slices.Repeat([]byte{0xFF}, n))} {
				for _, length := range []uint32{0, 1, uint32(n / 2), uint32(n), uint32(n) + 1, yes} {
					if got := expectText(t, text, length); !slices.Equal(got, want) {
						t.Fatalf("%d bytes, length %d: other bytes, other events", n, length)
					}
				}
			}
		}
	}
}

// TestOfNone holds that rows of no words are within up to Top, and have no word in common.
func TestOfNone(t *testing.T) {
	words := []uint32{0xFF, 2, 3}
	for at := range 4 {
		for _, length := range []uint32{0, 1, yes} {
			expectDone(t, words, lanes{at, at, at}, 0, length)
			expectDone(t, words, lanes{0, 3, at}, 0, length)
		}
	}
	expectDone(t, nil, lanes{}, 0, 0)
	for _, at := range []int{math.MinInt, -1, 4, math.MaxInt} {
		expectRefused(t, filled(t, words), lanes{at, 0, 0}, 0)
		expectRefused(t, filled(t, words), lanes{0, at, 0}, 0)
		expectRefused(t, filled(t, words), lanes{0, 0, at}, 0)
	}
}

// expectRefused holds that the word 0 and false are answered, and nothing is done.
func expectRefused(t *testing.T, a *arena.Arena, l lanes, n int) {
	t.Helper()
	top, from := a.Top(), a.Log().Len()
	for _, length := range []uint32{0, 3, yes} {
		bad, ok := utf.Decode(a, l.in, n, ct.Of(length), l.out, l.keep)
		if ok || value(bad) != 0 {
			t.Errorf("%v, %d bytes: %X, %v", l, n, value(bad), ok)
		}
	}
	if a.Top() != top || a.Log().Len() != from {
		t.Errorf("%v, %d bytes: something is done", l, n)
	}
}

func TestRefused(t *testing.T) {
	words := []uint32{0xFF, 0x61, 3, 4, 5, 6, 7, 8, 9, 10}
	a := filled(t, words)
	for _, n := range []int{math.MinInt, -1, 11, api.MaxCap, api.MaxCap + 1, math.MaxInt} {
		expectRefused(t, a, lanes{0, 3, 6}, n)
	}
	for _, at := range []int{math.MinInt, -3, -1, 8, 9, 10, 11, math.MaxInt} {
		expectRefused(t, a, lanes{at, 0, 3}, 3)
		expectRefused(t, a, lanes{0, at, 3}, 3)
		expectRefused(t, a, lanes{0, 3, at}, 3)
	}
	for _, near := range []int{3, 4, 5, 6, 7} {
		expectRefused(t, a, lanes{0, 5, near}, 3)
		expectRefused(t, a, lanes{5, 0, near}, 3)
		expectRefused(t, a, lanes{5, near, 0}, 3)
	}
	expectRefused(t, a, lanes{4, 4, 4}, 1)
	if got := a.Show(0, len(words)); !slices.Equal(got, words) {
		t.Error(got)
	}
}

// TestMoreThanTheMost holds that too great an n is refused where there is room for it.
func TestMoreThanTheMost(t *testing.T) {
	n := api.MaxCap + 1
	expectRefused(t, filled(t, make([]uint32, 3*n)), lanes{0, n, 2 * n}, n)
}

func TestNoArena(t *testing.T) {
	for _, n := range []int{math.MinInt, -1, 0, 1, api.MaxCap, api.MaxCap + 1} {
		expectRefused(t, nil, lanes{}, n)
		expectRefused(t, nil, lanes{0, n, -n}, n)
	}
}

func TestCost(t *testing.T) {
	for n := range api.MaxCap + 1 {
		if got := utf.Cost(n); got != 7*n {
			t.Fatalf("Cost of %d: %d", n, got)
		}
	}
	for _, n := range []int{math.MinInt, -2, -1, api.MaxCap + 1, 1 << 20, math.MaxInt} {
		if got := utf.Cost(n); got != 0 {
			t.Errorf("Cost of %d: %d", n, got)
		}
	}
}
