package rows_test

import (
	"math"
	"math/rand"
	"slices"
	"testing"

	"sabretache/arena"
	"sabretache/rows"
)

func taken(n, more int) *arena.Arena {
	a := arena.New(n + more)
	a.Take(n)
	return a
}

func TestOf(t *testing.T) {
	if got := rows.Of(3, 7, -1, 0); !slices.Equal(got, []rows.Row{{At: 7, N: 3}, {At: -1, N: 3}, {At: 0, N: 3}}) {
		t.Error(got)
	}
	if got := rows.Of(3); len(got) != 0 {
		t.Error(got)
	}
}

func TestApart(t *testing.T) {
	a := taken(10, 5)
	for _, c := range []struct {
		rows []rows.Row
		want bool
	}{
		{nil, true},
		{[]rows.Row{{0, 10}}, true},
		{[]rows.Row{{0, 11}}, false},
		{[]rows.Row{{-1, 2}}, false},
		{[]rows.Row{{9, 1}}, true},
		{[]rows.Row{{10, 1}}, false},
		{[]rows.Row{{10, 0}}, true},
		{[]rows.Row{{11, 0}}, false},
		{[]rows.Row{{-1, 0}}, false},
		{[]rows.Row{{0, -1}}, false},
		{[]rows.Row{{math.MaxInt, math.MaxInt}}, false},
		{[]rows.Row{{math.MinInt, math.MinInt}}, false},
		{[]rows.Row{{1, math.MaxInt}}, false},
		{[]rows.Row{{0, 5}, {5, 5}}, true},
		{[]rows.Row{{5, 5}, {0, 5}}, true},
		{[]rows.Row{{0, 6}, {5, 5}}, false},
		{[]rows.Row{{5, 5}, {0, 6}}, false},
		{[]rows.Row{{0, 10}, {4, 1}}, false},
		{[]rows.Row{{4, 1}, {0, 10}}, false},
		{[]rows.Row{{4, 1}, {4, 1}}, false},
		{[]rows.Row{{4, 1}, {4, 3}}, false},
		{[]rows.Row{{4, 3}, {4, 1}}, false},
		{[]rows.Row{{4, 0}, {4, 0}}, true},
		{[]rows.Row{{0, 10}, {4, 0}, {0, 0}, {10, 0}}, true},
		{[]rows.Row{{0, 6}, {3, 0}, {5, 2}}, false},
		{[]rows.Row{{0, 2}, {8, 2}, {2, 6}}, true},
		{[]rows.Row{{0, 2}, {8, 3}, {2, 6}}, false},
	} {
		given := slices.Clone(c.rows)
		if got := rows.Apart(a, c.rows...); got != c.want {
			t.Errorf("Apart %v: %v", c.rows, got)
		}
		if !slices.Equal(given, c.rows) {
			t.Errorf("Apart changed %v to %v", given, c.rows)
		}
	}
	if a.Log().Len() != 1 {
		t.Error("something was noted")
	}
}

func TestApartOfDrawnRows(t *testing.T) {
	draw := rand.New(rand.NewSource(1))
	a := taken(12, 3)
	for range 20000 {
		list := make([]rows.Row, draw.Intn(5))
		for i := range list {
			list[i] = rows.Row{At: draw.Intn(15) - 1, N: draw.Intn(6) - 1}
		}
		want := true
		var seen [20]bool
		for _, r := range list {
			want = want && r.At >= 0 && r.N >= 0 && r.At+r.N <= 12
			for at := r.At; want && at < r.At+r.N; at++ {
				want, seen[at] = !seen[at], true
			}
		}
		if got := rows.Apart(a, list...); got != want {
			t.Fatalf("Apart %v: %v", list, got)
		}
	}
}

func TestApartOfNoArena(t *testing.T) {
	if !rows.Apart(nil) || rows.Apart(nil, rows.Row{}) || rows.Apart(nil, rows.Row{At: 0, N: 1}) {
		t.Error("rows within no arena")
	}
}
