package hangul_test

import (
	"go/ast"
	"go/parser"
	"go/token"
	"math"
	"math/rand"
	"os"
	"slices"
	"strings"
	"testing"

	"sabretache/api"
	"sabretache/ct"
	"sabretache/hangul"
)

const yes = uint32(math.MaxUint32)

func value(s ct.Sec) uint32 {
	return ct.NewLog().Release(s)
}

func mask(is bool) uint32 {
	if is {
		return yes
	}
	return 0
}

func parts(p uint32) ([3]uint32, uint32) {
	l, is := hangul.Parts(ct.Of(p))
	return [3]uint32{value(l[0]), value(l[1]), value(l[2])}, value(is)
}

func join(a, b uint32) (uint32, uint32) {
	p, is := hangul.Join(ct.Of(a), ct.Of(b))
	return value(p), value(is)
}

// syllables has each syllable with its parts. They are counted off one by one, so that no product and no quotient is asked.
var syllables = counted()

func counted() map[uint32][3]uint32 {
	all := map[uint32][3]uint32{}
	p := uint32(0xAC00)
	for lead := uint32(0x1100); lead <= 0x1112; lead++ {
		for vowel := uint32(0x1161); vowel <= 0x1175; vowel++ {
			all[p] = [3]uint32{lead, vowel, 0}
			p++
			for trail := uint32(0x11A8); trail <= 0x11C2; trail++ {
				all[p] = [3]uint32{lead, vowel, trail}
				p++
			}
		}
	}
	return all
}

// joined has what two points become.
var joined = pairs()

func pairs() map[[2]uint32]uint32 {
	open, all := map[[2]uint32]uint32{}, map[[2]uint32]uint32{}
	for p, l := range syllables {
		if l[2] == 0 {
			open[[2]uint32{l[0], l[1]}] = p
		}
	}
	for p, l := range syllables {
		ahead := [2]uint32{l[0], l[1]}
		if l[2] == 0 {
			all[ahead] = p
		} else {
			all[[2]uint32{open[ahead], l[2]}] = p
		}
	}
	return all
}

func expectParts(t *testing.T, p uint32) {
	t.Helper()
	want, is := syllables[p]
	if got, m := parts(p); got != want || m != mask(is) {
		t.Errorf("Parts of %X: %X, %X, want %X, %v", p, got, m, want, is)
	}
}

func expectJoin(t *testing.T, a, b uint32) {
	t.Helper()
	want, is := joined[[2]uint32{a, b}]
	if got, m := join(a, b); got != want || m != mask(is) {
		t.Errorf("Join of %X %X: %X, %X, want %X, %v", a, b, got, m, want, is)
	}
}

// edges are words at and about the ends of each row, with what would be as far from them if a carry went astray, and the ends of all words.
func edges() []uint32 {
	var list []uint32
	for _, end := range []uint32{0x1100, 0x1112, 0x1161, 0x1175, 0x11A8, 0x11C2, 0xAC00, 0xD7A3, 0x41, 0x300, 0x10FFFF, 0, 1 << 31} {
		for d := range uint32(4) {
			list = append(list, end+d, end-d)
		}
		list = append(list, end+28, end-28, end+588, end-588, end^1<<16, end^1<<21, end^1<<31, -end, ^end)
	}
	slices.Sort(list)
	return slices.Compact(list)
}

// span is all words from one to another.
func span(first, last uint32) []uint32 {
	var list []uint32
	for x := first; x <= last; x++ {
		list = append(list, x)
	}
	return list
}

// TestWhatIsWrittenDown holds what the chapter says by numbers written down, not by the model.
func TestWhatIsWrittenDown(t *testing.T) {
	for p, want := range map[uint32][3]uint32{
		0xAC00: {0x1100, 0x1161, 0},
		0xAC01: {0x1100, 0x1161, 0x11A8},
		0xAC1B: {0x1100, 0x1161, 0x11C2},
		0xAC1C: {0x1100, 0x1162, 0},
		0xAE00: {0x1100, 0x1173, 0x11AF},
		0xAE4B: {0x1100, 0x1175, 0x11C2},
		0xAE4C: {0x1101, 0x1161, 0},
		0xB098: {0x1102, 0x1161, 0},
		0xD4DB: {0x1111, 0x1171, 0x11B6},
		0xD55C: {0x1112, 0x1161, 0x11AB},
		0xD788: {0x1112, 0x1175, 0},
		0xD7A3: {0x1112, 0x1175, 0x11C2},
	} {
		if got, is := parts(p); got != want || is != yes {
			t.Errorf("Parts of %X: %X, %X", p, got, is)
		}
		open := p
		if want[2] != 0 {
			// The numbers of trailing parts begin behind 11A7.
			open = p - (want[2] - 0x11A7)
			if got, is := join(open, want[2]); got != p || is != yes {
				t.Errorf("Join of %X %X: %X, %X", open, want[2], got, is)
			}
		}
		if got, is := join(want[0], want[1]); got != open || is != yes {
			t.Errorf("Join of %X %X: %X, %X", want[0], want[1], got, is)
		}
	}
}

func TestPartsOfEveryPoint(t *testing.T) {
	if len(syllables) != 11172 {
		t.Fatalf("%d syllables", len(syllables))
	}
	for p := range uint32(0x110000) {
		expectParts(t, p)
	}
}

// TestPartsOfNoPoints goes over words that no point is: they aren't brought into the row of syllables by what wraps round.
func TestPartsOfNoPoints(t *testing.T) {
	draw := rand.New(rand.NewSource(1))
	for _, p := range edges() {
		expectParts(t, p)
	}
	for range 300000 {
		expectParts(t, draw.Uint32())
	}
	for shift := 16; shift < 32; shift++ {
		for p := range syllables {
			expectParts(t, p|1<<shift)
		}
	}
}

// TestSyllablesAndTheirParts holds that each syllable comes back from what Parts answers of it.
func TestSyllablesAndTheirParts(t *testing.T) {
	for p := range syllables {
		l, _ := hangul.Parts(ct.Of(p))
		open, is := hangul.Join(l[0], l[1])
		ended, more := hangul.Join(open, l[2])
		if value(is) != yes || value(ct.Sel(more, ended, open)) != p || value(more) != mask(syllables[p][2] != 0) {
			t.Errorf("%X: %X, %X", p, value(open), value(ended))
		}
	}
}

func TestJoinOfAllThatBecomeOne(t *testing.T) {
	if len(joined) != 11172 {
		t.Fatalf("%d pairs", len(joined))
	}
	for x := range joined {
		expectJoin(t, x[0], x[1])
		// The other way about they become nothing.
		expectJoin(t, x[1], x[0])
	}
}

// TestJoinOfParts goes over all pairs of points in and about the three rows of parts.
func TestJoinOfParts(t *testing.T) {
	all := span(0x10F8, 0x11D0)
	for _, a := range all {
		for _, b := range all {
			expectJoin(t, a, b)
		}
	}
}

// TestJoinOfSyllables goes over all points in and about their row, with all in and about the row of trailing parts, and with the other parts.
func TestJoinOfSyllables(t *testing.T) {
	behind := slices.Concat(span(0x11A4, 0x11C6), []uint32{0, 1, 27, 28, 0x1100, 0x1112, 0x1161, 0x1175, 0xAC00, 0xAC01, 0xD7A3, yes})
	for a := uint32(0xABE0); a <= 0xD7C0; a++ {
		for _, b := range behind {
			expectJoin(t, a, b)
		}
	}
}

func TestJoinOfEdges(t *testing.T) {
	draw := rand.New(rand.NewSource(2))
	all := edges()
	for _, a := range all {
		for _, b := range all {
			expectJoin(t, a, b)
		}
		for range 200 {
			expectJoin(t, a, draw.Uint32())
			expectJoin(t, draw.Uint32(), a)
		}
	}
	for range 100000 {
		expectJoin(t, draw.Uint32(), draw.Uint32())
	}
}

func TestSpans(t *testing.T) {
	want := []api.Span{{First: 0xAC00, Last: 0xD7A3}}
	got := hangul.Spans()
	if !slices.Equal(got, want) {
		t.Fatalf("%X", got)
	}
	// What is answered is the caller's own.
	got[0] = api.Span{First: 1, Last: 2}
	_ = append(got[:0], api.Span{})
	if again := hangul.Spans(); !slices.Equal(again, want) {
		t.Errorf("%X, once an answer was spoilt", again)
	}
	if p, is := parts(0xAC01); p != [3]uint32{0x1100, 0x1161, 0x11A8} || is != yes {
		t.Errorf("%X, %X, once an answer was spoilt", p, is)
	}
}

// TestNothingIsTold holds by the source, since no answer shows it, that no word is told or asked on the way.
func TestNothingIsTold(t *testing.T) {
	entries, err := os.ReadDir(".")
	if err != nil {
		t.Fatal(err)
	}
	for _, e := range entries {
		name := e.Name()
		if !strings.HasSuffix(name, ".go") || strings.HasSuffix(name, "_test.go") {
			continue
		}
		file, err := parser.ParseFile(token.NewFileSet(), name, nil, 0)
		if err != nil {
			t.Fatal(err)
		}
		ast.Inspect(file, func(n ast.Node) bool {
			if s, ok := n.(*ast.SelectorExpr); ok && slices.Contains([]string{"Release", "Released", "Events", "Blank"}, s.Sel.Name) {
				t.Errorf("%s calls %s", name, s.Sel.Name)
			}
			return true
		})
	}
}
