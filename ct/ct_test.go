package ct_test

import (
	"math"
	"math/rand"
	"reflect"
	"testing"

	"sabretache/ct"
)

const (
	yes = uint32(math.MaxUint32)
	no  = uint32(0)
)

// edges are words at which carries, signs and masks go wrong first.
var edges = []uint32{0, 1, 2, 3, 31, 32, 0x55555555, 0x7FFFFFFE, 0x7FFFFFFF, 0x80000000, 0x80000001, 0xAAAAAAAA, 0xF0F0F0F0, 0xFFFFFFFE, 0xFFFFFFFF}

// turns are numbers of bits: ordinary ones, those at the chapter's bounds, and those that no word has.
var turns = []int{math.MinInt, math.MinInt + 1, -65, -64, -33, -32, -31, -4, -1, 0, 1, 4, 7, 16, 30, 31, 32, 33, 36, 63, 64, 65, 1 << 20, math.MaxInt - 1, math.MaxInt}

// words are the edges, and some drawn the same way each time.
func words() []uint32 {
	draw := rand.New(rand.NewSource(1))
	list := append([]uint32(nil), edges...)
	for range 30 {
		list = append(list, draw.Uint32())
	}
	return list
}

func value(a ct.Sec) uint32 {
	return ct.NewLog().Release(a)
}

func mask(b bool) uint32 {
	if b {
		return yes
	}
	return no
}

func expect(t *testing.T, got ct.Sec, want uint32, name string, args ...any) {
	t.Helper()
	if v := value(got); v != want {
		t.Errorf("%s%v: %#x, want %#x", name, args, v, want)
	}
}

func TestWordsCannotBeLookedAt(t *testing.T) {
	sec := reflect.TypeFor[ct.Sec]()
	if sec.Comparable() {
		t.Error("words can be compared")
	}
	for i := range sec.NumField() {
		if f := sec.Field(i); f.IsExported() {
			t.Errorf("field %s is exported", f.Name)
		}
	}
}

func TestOf(t *testing.T) {
	for _, v := range words() {
		expect(t, ct.Of(v), v, "Of", v)
	}
	var zero ct.Sec
	expect(t, zero, 0, "Sec")
}

func TestMask(t *testing.T) {
	expect(t, ct.Mask(true), yes, "Mask", true)
	expect(t, ct.Mask(false), no, "Mask", false)
}

func TestOneWord(t *testing.T) {
	for _, v := range words() {
		expect(t, ct.Not(ct.Of(v)), math.MaxUint32-v, "Not", v)
		expect(t, ct.Zero(ct.Of(v)), mask(v == 0), "Zero", v)
	}
	for n := range 32 {
		expect(t, ct.Zero(ct.Of(1<<n)), no, "Zero", n)
	}
}

func TestTwoWords(t *testing.T) {
	for _, v := range words() {
		for _, w := range words() {
			a, b := ct.Of(v), ct.Of(w)
			expect(t, ct.And(a, b), v&w, "And", v, w)
			expect(t, ct.Or(a, b), v|w, "Or", v, w)
			expect(t, ct.Xor(a, b), v^w, "Xor", v, w)
			expect(t, ct.Add(a, b), uint32((uint64(v)+uint64(w))%(1<<32)), "Add", v, w)
			expect(t, ct.Sub(a, b), uint32((1<<32+uint64(v)-uint64(w))%(1<<32)), "Sub", v, w)
			expect(t, ct.Eq(a, b), mask(v == w), "Eq", v, w)
			expect(t, ct.Lt(a, b), mask(v < w), "Lt", v, w)
		}
	}
}

func TestKnownAnswers(t *testing.T) {
	top, one, most := ct.Of(1<<31), ct.Of(1), ct.Of(math.MaxUint32)
	expect(t, ct.Add(most, one), 0, "Add past 2^32")
	expect(t, ct.Add(most, most), 0xFFFFFFFE, "Add past 2^32")
	expect(t, ct.Sub(ct.Of(0), one), math.MaxUint32, "Sub below 0")
	expect(t, ct.Lt(one, top), yes, "Lt without a sign")
	expect(t, ct.Lt(top, one), no, "Lt without a sign")
	expect(t, ct.Lt(most, ct.Of(0)), no, "Lt without a sign")
	expect(t, ct.Lt(most, most), no, "Lt of the same")
	expect(t, ct.Shl(one, 31), 1<<31, "Shl")
	expect(t, ct.Shr(top, 31), 1, "Shr brings zeros")
	expect(t, ct.Shr(most, 4), 0x0FFFFFFF, "Shr brings zeros")
	expect(t, ct.Rot(ct.Of(0x12345678), 8), 0x78123456, "Rot")
	expect(t, ct.Rot(ct.Of(0x12345678), -8), 0x34567812, "Rot")
	expect(t, ct.Sel(ct.Mask(true), ct.Of(5), ct.Of(7)), 5, "Sel")
	expect(t, ct.Sel(ct.Mask(false), ct.Of(5), ct.Of(7)), 7, "Sel")
}

// shifted moves a word one bit at a time, so that no shift by n is trusted.
func shifted(v uint32, n int, step func(uint32) uint32) uint32 {
	for i := 0; i < n && i < 32; i++ {
		v = step(v)
	}
	return v
}

func TestShifts(t *testing.T) {
	left := func(v uint32) uint32 { return v << 1 }
	right := func(v uint32) uint32 { return v >> 1 }
	for _, v := range words() {
		for _, n := range turns {
			expect(t, ct.Shl(ct.Of(v), n), shifted(v, n, left), "Shl", v, n)
			expect(t, ct.Shr(ct.Of(v), n), shifted(v, n, right), "Shr", v, n)
		}
	}
}

func TestRot(t *testing.T) {
	turn := func(v uint32) uint32 { return v>>1 | v<<31 }
	for _, v := range words() {
		for _, n := range turns {
			rest := (n%32 + 32) % 32
			expect(t, ct.Rot(ct.Of(v), n), shifted(v, rest, turn), "Rot", v, n)
		}
	}
}

// picked takes each bit by itself from one of the two words.
func picked(m, a, b uint32) uint32 {
	var r uint32
	for i := range 32 {
		from := b
		if m>>i&1 == 1 {
			from = a
		}
		r |= from & (1 << i)
	}
	return r
}

func TestSelOfAnyWord(t *testing.T) {
	for _, m := range words() {
		for _, a := range edges {
			for _, b := range edges {
				expect(t, ct.Sel(ct.Of(m), ct.Of(a), ct.Of(b)), picked(m, a, b), "Sel", m, a, b)
			}
		}
	}
}

func TestBlank(t *testing.T) {
	if !ct.Blank(nil) || !ct.Blank([]ct.Sec{}) {
		t.Error("an empty list isn't blank")
	}
	for n := 1; n < 6; n++ {
		if !ct.Blank(make([]ct.Sec, n)) {
			t.Errorf("%d words 0 aren't blank", n)
		}
		for at := range n {
			for bit := range 32 {
				l := make([]ct.Sec, n)
				l[at] = ct.Of(1 << bit)
				if ct.Blank(l) {
					t.Errorf("%d words with bit %d at %d are blank", n, bit, at)
				}
				expect(t, l[at], 1<<bit, "Blank leaves", n, at, bit)
			}
		}
	}
}

func TestBlankOfWordsThatCancel(t *testing.T) {
	for _, v := range edges[1:] {
		a, b := ct.Of(v), ct.Of(-v)
		if ct.Blank([]ct.Sec{a, a}) || ct.Blank([]ct.Sec{a, b}) || ct.Blank([]ct.Sec{a, ct.Not(a)}) {
			t.Errorf("%#x and its opposite are blank", v)
		}
	}
}
