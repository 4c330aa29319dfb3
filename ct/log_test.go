package ct_test

import (
	"math"
	"slices"
	"testing"

	"sabretache/api"
	"sabretache/ct"
)

// filled has events of each kind, Releases at its beginning and end among them.
func filled() (*ct.Log, []api.Event) {
	l := ct.NewLog()
	l.Release(ct.Of(7))
	l.Take(3, 4)
	l.Load(5)
	l.Store(6)
	l.Release(ct.Of(0))
	l.Give(3, 4)
	l.Release(ct.Of(math.MaxUint32))
	return l, []api.Event{
		{Kind: 3, Index: 0, Value: 7},
		{Kind: 4, Index: 3, Value: 4},
		{Kind: 1, Index: 5, Value: 0},
		{Kind: 2, Index: 6, Value: 0},
		{Kind: 3, Index: 0, Value: 0},
		{Kind: 5, Index: 3, Value: 4},
		{Kind: 3, Index: 0, Value: math.MaxUint32},
	}
}

func expectEvents(t *testing.T, got []api.Event, want ...api.Event) {
	t.Helper()
	if !slices.Equal(got, want) {
		t.Errorf("events %v, want %v", got, want)
	}
}

func TestNewLogHasNothing(t *testing.T) {
	l := ct.NewLog()
	if l == nil {
		t.Fatal("no log")
	}
	if l.Len() != 0 || len(l.Events()) != 0 || len(l.Released()) != 0 || len(l.Blind()) != 0 {
		t.Error("a new log has events")
	}
}

func TestLogsAreApart(t *testing.T) {
	l, m := ct.NewLog(), ct.NewLog()
	l.Load(1)
	if m.Len() != 0 {
		t.Error("one log's event is in another")
	}
}

func TestEventsInOrder(t *testing.T) {
	l, want := filled()
	if l.Len() != len(want) {
		t.Errorf("Len %d, want %d", l.Len(), len(want))
	}
	expectEvents(t, l.Events(), want...)
}

func TestReleased(t *testing.T) {
	l, _ := filled()
	if got, want := l.Released(), []uint32{7, 0, math.MaxUint32}; !slices.Equal(got, want) {
		t.Errorf("Released %v, want %v", got, want)
	}
	m := ct.NewLog()
	m.Take(1, 2)
	m.Load(1)
	m.Store(1)
	m.Give(1, 2)
	if len(m.Released()) != 0 {
		t.Errorf("Released %v, want none", m.Released())
	}
}

func TestBlind(t *testing.T) {
	l, want := filled()
	for i := range want {
		if want[i].Kind == api.Release {
			want[i].Value = 0
		}
	}
	expectEvents(t, l.Blind(), want...)
	_, whole := filled()
	expectEvents(t, l.Events(), whole...)
}

func TestAnyPlace(t *testing.T) {
	for _, at := range []int{math.MinInt, -6, -1, 0, 1, api.MaxWords, math.MaxInt} {
		l := ct.NewLog()
		l.Load(at)
		l.Store(at)
		l.Take(at, 1)
		l.Give(at, 1)
		expectEvents(t, l.Events(),
			api.Event{Kind: api.Load, Index: at},
			api.Event{Kind: api.Store, Index: at},
			api.Event{Kind: api.Take, Index: at, Value: 1},
			api.Event{Kind: api.Give, Index: at, Value: 1})
	}
}

func TestCountsAreBroughtWithin(t *testing.T) {
	for _, c := range []struct {
		n    int
		want uint32
	}{
		{math.MinInt, 0}, {-1 << 32, 0}, {1 - 1<<32, 0}, {-4, 0}, {-1, 0},
		{0, 0}, {1, 1}, {1 << 31, 1 << 31}, {1<<32 - 2, 1<<32 - 2}, {1<<32 - 1, 1<<32 - 1},
		{1 << 32, 1<<32 - 1}, {1<<32 + 5, 1<<32 - 1}, {1 << 40, 1<<32 - 1}, {math.MaxInt, 1<<32 - 1},
	} {
		l := ct.NewLog()
		l.Take(2, c.n)
		l.Give(2, c.n)
		expectEvents(t, l.Events(),
			api.Event{Kind: api.Take, Index: 2, Value: c.want},
			api.Event{Kind: api.Give, Index: 2, Value: c.want})
	}
}

func TestReleaseTellsAndNotes(t *testing.T) {
	for _, v := range words() {
		l := ct.NewLog()
		if got := l.Release(ct.Of(v)); got != v {
			t.Errorf("Release %#x, want %#x", got, v)
		}
		expectEvents(t, l.Events(), api.Event{Kind: api.Release, Value: v})
	}
}

func TestAnswersAreTheCallersOwn(t *testing.T) {
	l, want := filled()
	events, blind, told := l.Events(), l.Blind(), l.Released()
	for i := range events {
		events[i] = api.Event{Kind: 9, Index: 9, Value: 9}
		blind[i] = api.Event{Kind: 8, Index: 8, Value: 8}
	}
	for i := range told {
		told[i] = 9
	}
	expectEvents(t, l.Events(), want...)
	kept := l.Events()
	_ = append(kept, api.Event{Kind: 9})
	l.Load(10)
	_ = append(kept, api.Event{Kind: 9})
	expectEvents(t, l.Events(), append(want, api.Event{Kind: api.Load, Index: 10})...)
	if len(kept) != len(want) {
		t.Error("an answer grew with its log")
	}
}

func TestNilLog(t *testing.T) {
	var l *ct.Log
	l.Load(1)
	l.Store(2)
	l.Take(3, 4)
	l.Give(3, 4)
	for _, v := range edges {
		if got := l.Release(ct.Of(v)); got != v {
			t.Errorf("Release %#x, want %#x", got, v)
		}
	}
	if l.Len() != 0 || len(l.Events()) != 0 || len(l.Released()) != 0 || len(l.Blind()) != 0 {
		t.Error("a nil log has events")
	}
}
