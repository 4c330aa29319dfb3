package arena_test

import (
	"math/rand"
	"slices"
	"testing"

	"sabretache/api"
	"sabretache/arena"
	"sabretache/ct"
)

// model is an arena of plain words: those that are taken, how many there are, and what is noted.
type model struct {
	words  []uint32
	size   int
	events []api.Event
}

func (m *model) within(at, n int) bool {
	return at >= 0 && n >= 0 && at+n <= len(m.words)
}

func (m *model) take(n int) (int, bool) {
	at := len(m.words)
	if n < 0 || at+n > m.size {
		return 0, false
	}
	m.words = append(m.words, make([]uint32, n)...)
	m.events = append(m.events, take(at, uint32(n)))
	return at, true
}

func (m *model) give(at int) bool {
	if at < 0 || at > len(m.words) {
		return false
	}
	n := len(m.words) - at
	for i := range n {
		m.events = append(m.events, store(at+n-1-i))
	}
	m.words = slices.Clone(m.words[:at])
	m.events = append(m.events, give(at, uint32(n)))
	return true
}

func (m *model) put(at int, l []uint32) bool {
	if !m.within(at, len(l)) {
		return false
	}
	for i, v := range l {
		m.words[at+i] = v
		m.events = append(m.events, store(at+i))
	}
	return true
}

func (m *model) show(at, n int) []uint32 {
	if !m.within(at, n) {
		return nil
	}
	for i, v := range m.words[at : at+n] {
		m.events = append(m.events, load(at+i), told(v))
	}
	return slices.Clone(m.words[at : at+n])
}

func (m *model) load(at int) uint32 {
	if !m.within(at, 1) {
		return 0
	}
	m.events = append(m.events, load(at))
	return m.words[at]
}

// step does one thing that is drawn to both, and tells whether they answer the same.
func step(draw *rand.Rand, a *arena.Arena, m *model) bool {
	at, n := draw.Intn(m.size+4)-2, draw.Intn(6)-1
	switch draw.Intn(7) {
	case 0:
		x, ok := a.Take(n)
		y, is := m.take(n)
		return x == y && ok == is
	case 1:
		return a.Give(at) == m.give(at)
	case 2:
		return value(a.Load(at)) == m.load(at)
	case 3:
		v := draw.Uint32()
		return a.Store(at, ct.Of(v)) == m.put(at, []uint32{v})
	case 4:
		x, y := a.Release(at), m.show(at, 1)
		return x == append(y, 0)[0]
	case 5:
		l := make([]uint32, max(n, 0))
		for i := range l {
			l[i] = draw.Uint32()
		}
		return a.Put(at, l) == m.put(at, l)
	default:
		return slices.Equal(a.Show(at, n), m.show(at, n))
	}
}

// agree holds what doesn't note against the model.
func agree(a *arena.Arena, m *model) bool {
	blank := slices.Max(append(slices.Clone(m.words), 0)) == 0
	if a.Top() != len(m.words) || a.Size() != m.size || a.Blank() != blank {
		return false
	}
	for at := -1; at < m.size+2; at++ {
		for n := -1; n < m.size+2; n++ {
			if a.Fits(at, n) != m.within(at, n) {
				return false
			}
		}
	}
	return slices.Equal(a.Log().Events(), m.events)
}

func TestAsTheModel(t *testing.T) {
	for seed := range int64(200) {
		draw := rand.New(rand.NewSource(seed))
		size := draw.Intn(14)
		a, m := arena.New(size), &model{size: size}
		for i := range 60 {
			if !step(draw, a, m) || !agree(a, m) {
				t.Fatalf("seed %d, step %d: %d taken of %d, want %d", seed, i, a.Top(), a.Size(), len(m.words))
			}
		}
		if !a.Give(0) || !m.give(0) || !a.Blank() || !agree(a, m) {
			t.Fatalf("seed %d: not blank behind Give(0)", seed)
		}
	}
}

// TestTheSameLogOfOtherWords holds that what is seen hangs on places and counts, and not on words.
func TestTheSameLogOfOtherWords(t *testing.T) {
	var seen [2][]api.Event
	for i, v := range []uint32{0, 0xDEADBEEF} {
		a := arena.New(12)
		a.Take(7)
		a.Put(1, []uint32{v, v + 1, ^v})
		a.Store(0, a.Load(1))
		a.Show(0, 7)
		a.Give(3)
		a.Take(2)
		a.Give(0)
		seen[i] = a.Log().Blind()
	}
	expectEvents(t, seen[1], seen[0]...)
}
