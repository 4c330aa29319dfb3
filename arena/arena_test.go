package arena_test

import (
	"math"
	"slices"
	"testing"

	"sabretache/api"
	"sabretache/arena"
	"sabretache/ct"
)

// far are numbers that name no place, and no count, of a small arena.
var far = []int{math.MinInt, math.MinInt + 1, -1 << 32, -2, -1, 1 << 31, 1 << 32, 1<<32 + 1, math.MaxInt - 8, math.MaxInt - 1, math.MaxInt}

func value(a ct.Sec) uint32 {
	return ct.NewLog().Release(a)
}

// taken has words of which so many are taken, each of them its place and 100.
func taken(t *testing.T, words, n int) *arena.Arena {
	t.Helper()
	a := arena.New(words)
	if at, ok := a.Take(n); at != 0 || !ok {
		t.Fatalf("Take(%d) of %d: %d, %v", n, words, at, ok)
	}
	for i := range n {
		if !a.Store(i, ct.Of(uint32(100+i))) {
			t.Fatalf("Store(%d) of %d", i, n)
		}
	}
	return a
}

// behind answers what was noted since the first n events.
func behind(a *arena.Arena, n int) []api.Event {
	return a.Log().Events()[n:]
}

func expectEvents(t *testing.T, got []api.Event, want ...api.Event) {
	t.Helper()
	if !slices.Equal(got, want) {
		t.Errorf("events %v, want %v", got, want)
	}
}

func load(at int) api.Event  { return api.Event{Kind: api.Load, Index: at} }
func store(at int) api.Event { return api.Event{Kind: api.Store, Index: at} }
func told(v uint32) api.Event {
	return api.Event{Kind: api.Release, Value: v}
}
func take(at int, n uint32) api.Event { return api.Event{Kind: api.Take, Index: at, Value: n} }
func give(at int, n uint32) api.Event { return api.Event{Kind: api.Give, Index: at, Value: n} }

func TestNewIsBroughtWithin(t *testing.T) {
	for _, c := range []struct{ words, want int }{
		{math.MinInt, 0}, {-1 << 32, 0}, {-5, 0}, {-1, 0}, {0, 0}, {1, 1}, {10, 10},
		{api.MaxWords - 1, 1<<22 - 1}, {api.MaxWords, 1 << 22}, {api.MaxWords + 1, 1 << 22}, {1<<32 + 3, 1 << 22}, {math.MaxInt, 1 << 22},
	} {
		a := arena.New(c.words)
		if a.Size() != c.want {
			t.Errorf("New(%d): %d words, want %d", c.words, a.Size(), c.want)
		}
		if a.Top() != 0 || !a.Blank() || a.Log() == nil || a.Log().Len() != 0 {
			t.Errorf("New(%d): %d taken, blank %v", c.words, a.Top(), a.Blank())
		}
	}
}

func TestNewWordsAreZero(t *testing.T) {
	a := arena.New(50)
	a.Take(50)
	if got := a.Show(0, 50); !slices.Equal(got, make([]uint32, 50)) {
		t.Errorf("at first %v", got)
	}
}

func TestTheLastWordOfTheGreatest(t *testing.T) {
	a := arena.New(math.MaxInt)
	if _, ok := a.Take(api.MaxWords + 1); ok {
		t.Error("more than there are")
	}
	if at, ok := a.Take(api.MaxWords); at != 0 || !ok {
		t.Error("all of them", at, ok)
	}
	if !a.Store(api.MaxWords-1, ct.Of(3)) || a.Store(api.MaxWords, ct.Of(3)) || a.Blank() || a.Release(api.MaxWords-1) != 3 {
		t.Error("the last word")
	}
}

func TestTake(t *testing.T) {
	a := arena.New(10)
	for _, c := range []struct {
		n, at int
		ok    bool
	}{
		{11, 0, false}, {4, 0, true}, {0, 4, true}, {4, 4, true}, {4, 0, false}, {3, 0, false}, {2, 8, true}, {1, 0, false}, {0, 10, true},
	} {
		top, n := a.Top(), a.Log().Len()
		at, ok := a.Take(c.n)
		if at != c.at || ok != c.ok {
			t.Errorf("Take(%d): %d, %v, want %d, %v", c.n, at, ok, c.at, c.ok)
		}
		if !c.ok {
			expectEvents(t, behind(a, n))
			if a.Top() != top {
				t.Errorf("a refused Take(%d) took", c.n)
			}
			continue
		}
		expectEvents(t, behind(a, n), take(c.at, uint32(c.n)))
		if a.Top() != top+c.n || a.Size() != 10 {
			t.Errorf("Take(%d): %d taken of %d", c.n, a.Top(), a.Size())
		}
	}
}

func TestTakeOfNoCount(t *testing.T) {
	for _, top := range []int{0, 3, 10} {
		a := taken(t, 10, top)
		n := a.Log().Len()
		for _, c := range far {
			if at, ok := a.Take(c); at != 0 || ok {
				t.Errorf("Take(%d): %d, %v", c, at, ok)
			}
		}
		if a.Top() != top || a.Log().Len() != n {
			t.Errorf("%d taken, want %d", a.Top(), top)
		}
	}
	none := arena.New(0)
	if at, ok := none.Take(0); at != 0 || !ok {
		t.Error("none of none", at, ok)
	}
	if _, ok := none.Take(1); ok {
		t.Error("one of none")
	}
}

func TestGive(t *testing.T) {
	for at := range 6 {
		a := taken(t, 8, 5)
		n := a.Log().Len()
		if !a.Give(at) {
			t.Errorf("Give(%d)", at)
		}
		var want []api.Event
		for i := 4; i >= at; i-- {
			want = append(want, store(i))
		}
		expectEvents(t, behind(a, n), append(want, give(at, uint32(5-at)))...)
		if a.Top() != at || a.Size() != 8 || a.Blank() != (at == 0) {
			t.Errorf("Give(%d): %d taken, blank %v", at, a.Top(), a.Blank())
		}
		for i := range at {
			if got := a.Release(i); got != uint32(100+i) {
				t.Errorf("Give(%d) left %d at %d", at, got, i)
			}
		}
	}
}

func TestGiveOfNoPlace(t *testing.T) {
	a := taken(t, 8, 5)
	n := a.Log().Len()
	for _, at := range append([]int{6, 7, 8, 9}, far...) {
		if a.Give(at) {
			t.Errorf("Give(%d)", at)
		}
	}
	if a.Top() != 5 || a.Log().Len() != n {
		t.Error("a refused Give gave")
	}
	if got := a.Show(0, 5); !slices.Equal(got, []uint32{100, 101, 102, 103, 104}) {
		t.Errorf("a refused Give left %v", got)
	}
}

func TestGivenBackIsZeroWhenTakenAgain(t *testing.T) {
	for at := range 9 {
		a := taken(t, 8, 8)
		a.Give(at)
		if again, ok := a.Take(8 - at); again != at || !ok {
			t.Errorf("taken again at %d, want %d", again, at)
		}
		want := []uint32{100, 101, 102, 103, 104, 105, 106, 107}
		clear(want[at:])
		if got := a.Show(0, 8); !slices.Equal(got, want) {
			t.Errorf("behind Give(%d): %v, want %v", at, got, want)
		}
	}
}

func TestBlankBehindGiveOfAll(t *testing.T) {
	a := arena.New(20)
	for round := range 5 {
		a.Take(6)
		a.Put(0, []uint32{1, 2, 3, math.MaxUint32, 1 << 31, 6})
		a.Give(2 + round)
		a.Take(9)
		a.Put(2, []uint32{7, 7, 7})
		if a.Blank() {
			t.Error("blank with words in it")
		}
		if !a.Give(0) || !a.Blank() || a.Top() != 0 {
			t.Error("not blank behind Give(0)")
		}
	}
}

func TestBlankSeesEveryWord(t *testing.T) {
	for at := range 7 {
		for _, v := range []uint32{1, 1 << 31, math.MaxUint32} {
			a := arena.New(9)
			a.Take(7)
			a.Store(at, ct.Of(v))
			n := a.Log().Len()
			if a.Blank() {
				t.Errorf("%#x at %d is blank", v, at)
			}
			a.Store(at, ct.Of(0))
			if !a.Blank() {
				t.Error("words 0, and not blank")
			}
			expectEvents(t, behind(a, n), store(at))
		}
	}
}

func TestLoadAndStore(t *testing.T) {
	a := taken(t, 8, 5)
	for i := range 5 {
		n := a.Log().Len()
		if got := value(a.Load(i)); got != uint32(100+i) {
			t.Errorf("Load(%d): %d", i, got)
		}
		if !a.Store(i, ct.Of(math.MaxUint32-uint32(i))) {
			t.Errorf("Store(%d)", i)
		}
		if got := value(a.Load(i)); got != math.MaxUint32-uint32(i) {
			t.Errorf("Load(%d) behind a Store: %d", i, got)
		}
		expectEvents(t, behind(a, n), load(i), store(i), load(i))
	}
}

func TestRelease(t *testing.T) {
	a := taken(t, 8, 5)
	for i := range 5 {
		n := a.Log().Len()
		if got := a.Release(i); got != uint32(100+i) {
			t.Errorf("Release(%d): %d", i, got)
		}
		expectEvents(t, behind(a, n), load(i), told(uint32(100+i)))
	}
}

func TestWordsThatAreNotWithin(t *testing.T) {
	a := taken(t, 8, 6)
	a.Give(5)
	n := a.Log().Len()
	for _, at := range append([]int{5, 6, 7, 8, 9}, far...) {
		if got := value(a.Load(at)); got != 0 {
			t.Errorf("Load(%d): %d", at, got)
		}
		if a.Store(at, ct.Of(9)) {
			t.Errorf("Store(%d)", at)
		}
		if got := a.Release(at); got != 0 {
			t.Errorf("Release(%d): %d", at, got)
		}
	}
	expectEvents(t, behind(a, n))
	a.Take(3)
	if got := a.Show(0, 8); !slices.Equal(got, []uint32{100, 101, 102, 103, 104, 0, 0, 0}) {
		t.Errorf("refused Stores left %v", got)
	}
}

func TestPut(t *testing.T) {
	a := taken(t, 8, 5)
	n := a.Log().Len()
	l := []uint32{7, 0, math.MaxUint32}
	if !a.Put(1, l) {
		t.Error("Put")
	}
	expectEvents(t, behind(a, n), store(1), store(2), store(3))
	if !slices.Equal(l, []uint32{7, 0, math.MaxUint32}) {
		t.Errorf("Put changed what it was given: %v", l)
	}
	clear(l)
	if got := a.Show(0, 5); !slices.Equal(got, []uint32{100, 7, 0, math.MaxUint32, 104}) {
		t.Errorf("Put left %v", got)
	}
	if !a.Put(2, []uint32{1, 2, 3}) || !a.Put(0, []uint32{5, 4, 3, 2, 1}) {
		t.Error("Put up to the last word")
	}
}

func TestPutOfNone(t *testing.T) {
	a := taken(t, 8, 5)
	n := a.Log().Len()
	for at := range 6 {
		if !a.Put(at, nil) || !a.Put(at, []uint32{}) {
			t.Errorf("Put(%d) of none", at)
		}
	}
	for _, at := range append([]int{6, 8, 9}, far...) {
		if a.Put(at, nil) {
			t.Errorf("Put(%d) of none", at)
		}
	}
	expectEvents(t, behind(a, n))
}

func TestPutIsAllOrNothing(t *testing.T) {
	a := taken(t, 8, 5)
	n := a.Log().Len()
	for _, at := range append([]int{3, 4, 5, 6, 8}, far...) {
		if a.Put(at, []uint32{1, 2, 3}) {
			t.Errorf("Put(%d)", at)
		}
	}
	expectEvents(t, behind(a, n))
	if got := a.Show(0, 5); !slices.Equal(got, []uint32{100, 101, 102, 103, 104}) {
		t.Errorf("refused Puts left %v", got)
	}
}

func TestShow(t *testing.T) {
	a := taken(t, 8, 5)
	n := a.Log().Len()
	got := a.Show(2, 2)
	if !slices.Equal(got, []uint32{102, 103}) {
		t.Errorf("Show: %v", got)
	}
	expectEvents(t, behind(a, n), load(2), told(102), load(3), told(103))
	got[0] = 9
	if a.Release(2) != 102 {
		t.Error("what was shown is still the arena's")
	}
	n = a.Log().Len()
	if len(a.Show(5, 0)) != 0 || len(a.Show(0, 0)) != 0 {
		t.Error("Show of none")
	}
	expectEvents(t, behind(a, n))
}

func TestShowIsAllOrNothing(t *testing.T) {
	a := taken(t, 8, 5)
	n := a.Log().Len()
	for _, c := range [][2]int{{0, 6}, {4, 2}, {5, 1}, {6, 0}, {6, 1}, {7, 1}, {8, 0}, {0, -1}, {5, -1}, {-1, 1}, {-1, 2}} {
		if got := a.Show(c[0], c[1]); len(got) != 0 {
			t.Errorf("Show%v: %v", c, got)
		}
	}
	for _, at := range far {
		for _, n := range far {
			if len(a.Show(at, n)) != 0 || len(a.Show(at, 1)) != 0 || len(a.Show(1, n)) != 0 {
				t.Errorf("Show(%d, %d)", at, n)
			}
		}
	}
	expectEvents(t, behind(a, n))
}

func TestFits(t *testing.T) {
	a := taken(t, 8, 5)
	n := a.Log().Len()
	for at := -3; at < 12; at++ {
		for n := -3; n < 12; n++ {
			want := at >= 0 && n >= 0 && at+n <= 5
			if a.Fits(at, n) != want {
				t.Errorf("Fits(%d, %d): %v", at, n, !want)
			}
		}
	}
	for _, x := range far {
		for y := -1; y < 9; y++ {
			if a.Fits(x, y) || a.Fits(y, x) {
				t.Errorf("Fits of %d and %d", x, y)
			}
		}
		for _, y := range far {
			if a.Fits(x, y) {
				t.Errorf("Fits(%d, %d)", x, y)
			}
		}
	}
	expectEvents(t, behind(a, n))
}

func TestFitsOfNoneTaken(t *testing.T) {
	for _, words := range []int{0, 4} {
		a := arena.New(words)
		if !a.Fits(0, 0) || a.Fits(0, 1) || a.Fits(1, 0) {
			t.Errorf("Fits of none taken of %d", words)
		}
	}
}

func TestLogIsTheArenasOwn(t *testing.T) {
	a, b := arena.New(4), arena.New(4)
	log := a.Log()
	a.Take(2)
	if log.Len() != 1 || a.Log() != log {
		t.Error("a log that doesn't go on with its arena")
	}
	if b.Log().Len() != 0 || b.Log() == log {
		t.Error("two arenas with one log")
	}
	b.Take(4)
	b.Put(0, []uint32{1, 2, 3, 4})
	if !a.Blank() || a.Top() != 2 {
		t.Error("two arenas with one row of words")
	}
}

func TestNilArena(t *testing.T) {
	var a *arena.Arena
	if a.Top() != 0 || a.Size() != 0 || a.Log() != nil || !a.Blank() {
		t.Error("a nil arena has something")
	}
	for _, at := range append([]int{0, 1, 2}, far...) {
		if x, ok := a.Take(at); x != 0 || ok {
			t.Errorf("Take(%d)", at)
		}
		if a.Give(at) || a.Store(at, ct.Of(1)) || a.Put(at, nil) || a.Put(at, []uint32{1}) || a.Fits(at, 0) || a.Fits(0, at) {
			t.Errorf("%d of a nil arena", at)
		}
		if value(a.Load(at)) != 0 || a.Release(at) != 0 || len(a.Show(at, 0)) != 0 || len(a.Show(0, at)) != 0 {
			t.Errorf("%d of a nil arena is a word", at)
		}
	}
}
