package tables_test

import (
	"reflect"
	"slices"
	"strconv"
	"strings"
	"testing"

	"sabretache/api"
	"sabretache/seek"
	"sabretache/tables"
)

// The model reads the charts by fields, and knows of each point by itself.

func fields(text string) [][]string {
	var l [][]string
	for line := range strings.SplitSeq(text, "\n") {
		l = append(l, strings.Fields(line))
	}
	return l
}

func point(word string) uint32 {
	n, err := strconv.ParseUint(word, 16, 32)
	if err != nil {
		panic(err)
	}
	return uint32(n)
}

// spansWhere answers the spans of the lines that are asked for, from points that are marked one by one; their ends are words a and b of a line.
func spansWhere(text string, a, b int, ask func(words []string) bool) []api.Span {
	marks := make([]bool, lastPoint+2)
	for _, words := range fields(text) {
		if !ask(words) {
			continue
		}
		for p := point(words[a]); p <= point(words[b]); p++ {
			marks[p] = true
		}
	}
	var l []api.Span
	for p := range marks {
		switch {
		case !marks[p]:
		case p == 0 || !marks[p-1]:
			l = append(l, span(uint32(p), uint32(p)))
		default:
			l[len(l)-1].Last = uint32(p)
		}
	}
	return l
}

// names answers all words that stand at a place of a chart's lines, each one once.
func names(text string, at int) []string {
	var l []string
	for _, words := range fields(text) {
		l = append(l, words[at])
	}
	slices.Sort(l)
	return slices.Compact(l)
}

// inFull goes on with what points become till none of them becomes anything.
func inFull(lines map[uint32][]uint32, p uint32) []uint32 {
	l := []uint32{p}
	for {
		at := slices.IndexFunc(l, func(q uint32) bool { return lines[q] != nil })
		if at < 0 {
			return l
		}
		l = slices.Replace(l, at, at+1, lines[l[at]]...)
	}
}

func fullModel(compat bool) seek.Table {
	lines := map[uint32][]uint32{}
	var t seek.Table
	for _, words := range fields(api.Decomps) {
		if words[1] == "~" && !compat {
			continue
		}
		p := point(words[0])
		t.Keys = append(t.Keys, p)
		for _, word := range words[2:] {
			lines[p] = append(lines[p], point(word))
		}
	}
	for _, p := range t.Keys {
		t.Rows = append(t.Rows, append(inFull(lines, p), 0, 0)[:3])
	}
	return t
}

func row(t seek.Table, p uint32) []uint32 {
	at := slices.Index(t.Keys, p)
	if at < 0 {
		return nil
	}
	return t.Rows[at]
}

func TestFullByHand(t *testing.T) {
	x := tables.New()
	canon, compat := x.Full(false), x.Full(true)
	for _, c := range []struct {
		p             uint32
		canon, compat []uint32
	}{
		{0x01D5, []uint32{0x55, 0x308, 0x304}, []uint32{0x55, 0x308, 0x304}},
		{0x00C0, []uint32{0x41, 0x300, 0}, []uint32{0x41, 0x300, 0}},
		{0x212B, []uint32{0x41, 0x30A, 0}, []uint32{0x41, 0x30A, 0}},
		{0x0344, []uint32{0x308, 0x301, 0}, []uint32{0x308, 0x301, 0}},
		{0x0340, []uint32{0x300, 0, 0}, []uint32{0x300, 0, 0}},
		{0x1D15E, []uint32{0x1D157, 0x1D165, 0}, []uint32{0x1D157, 0x1D165, 0}},
		{0x00A0, nil, []uint32{0x20, 0, 0}},
		{0xFB03, nil, []uint32{0x66, 0x66, 0x69}},
		{0xFB04, nil, []uint32{0x66, 0x66, 0x6C}},
		{0x01C4, nil, []uint32{0x44, 0x5A, 0x30C}},
		{0x2000, []uint32{0x2002, 0, 0}, []uint32{0x20, 0, 0}},
		{0x0385, []uint32{0xA8, 0x301, 0}, []uint32{0x20, 0x308, 0x301}},
		{0x0000, nil, nil}, {0x0041, nil, nil}, {0x0300, nil, nil}, {0xAC00, nil, nil}, {0xD7A3, nil, nil}, {lastPoint, nil, nil},
	} {
		if got := row(canon, c.p); !slices.Equal(got, c.canon) {
			t.Errorf("%04X: %x, not %x", c.p, got, c.canon)
		}
		if got := row(compat, c.p); !slices.Equal(got, c.compat) {
			t.Errorf("%04X by likeness: %x, not %x", c.p, got, c.compat)
		}
	}
}

func TestFullAsTheModel(t *testing.T) {
	for _, compat := range []bool{false, true} {
		got, want := tables.New().Full(compat), fullModel(compat)
		if !reflect.DeepEqual(got, want) {
			t.Errorf("Full(%v) is %x, not %x", compat, got, want)
		}
		for i, p := range got.Keys {
			if i > 0 && p <= got.Keys[i-1] {
				t.Errorf("Full(%v): %04X stands behind %04X", compat, p, got.Keys[i-1])
			}
			if len(got.Rows[i]) != 3 {
				t.Errorf("Full(%v): %04X has %x", compat, p, got.Rows[i])
			}
			// What a point becomes in full becomes nothing any more.
			for _, q := range got.Rows[i] {
				if slices.Contains(got.Keys, q) {
					t.Errorf("Full(%v): %04X has %04X, which becomes something", compat, p, q)
				}
			}
		}
	}
}

func TestClassesAndRunsAreTheLinesOfTheirCharts(t *testing.T) {
	x := tables.New()
	var classes []seek.Weight
	for _, words := range fields(api.Classes) {
		n, _ := strconv.Atoi(words[2])
		classes = append(classes, seek.Weight{Span: span(point(words[0]), point(words[1])), N: uint32(n)})
	}
	if got := x.Classes(); !slices.Equal(got, classes) || len(got) == 0 {
		t.Errorf("Classes: %v", got)
	}
	for _, c := range []struct {
		name, text string
		got        []seek.Run
	}{{"Lowers", api.Lowers, x.Lowers()}, {"Widths", api.Widths, x.Widths()}} {
		var runs []seek.Run
		for _, words := range fields(c.text) {
			runs = append(runs, seek.Run{Span: span(point(words[0]), point(words[1])), To: point(words[2])})
		}
		if !slices.Equal(c.got, runs) || len(c.got) == 0 {
			t.Errorf("%s: %v", c.name, c.got)
		}
	}
	if got := x.Lowers()[0]; got != (seek.Run{Span: span('A', 'Z'), To: 'a'}) {
		t.Errorf("the first of Lowers: %v", got)
	}
	if got := x.Widths()[0]; got != (seek.Run{Span: span(0x3000, 0x3000), To: ' '}) {
		t.Errorf("the first of Widths: %v", got)
	}
}

func TestPairs(t *testing.T) {
	var want []seek.Pair
	for _, words := range fields(api.Decomps) {
		if words[1] == "=" && len(words) == 4 {
			want = append(want, seek.Pair{A: point(words[2]), B: point(words[3]), To: point(words[0])})
		}
	}
	got := tables.New().Pairs()
	if !slices.Equal(got, want) {
		t.Errorf("Pairs: %x, not %x", got, want)
	}
	for _, c := range []struct {
		pair seek.Pair
		is   bool
	}{
		{seek.Pair{A: 0x41, B: 0x300, To: 0xC0}, true},
		{seek.Pair{A: 0xDC, B: 0x304, To: 0x1D5}, true},
		{seek.Pair{A: 0x308, B: 0x301, To: 0x344}, false},
		{seek.Pair{A: 0x915, B: 0x93C, To: 0x958}, false},
		{seek.Pair{A: 0x41, B: 0x30A, To: 0x212B}, false},
		{seek.Pair{A: 0x41, B: 0x30A, To: 0xC5}, true},
		{seek.Pair{A: 0x49, B: 0x4A, To: 0x132}, false},
		{seek.Pair{A: 0x300, To: 0x340}, false},
	} {
		if slices.Contains(got, c.pair) != c.is {
			t.Errorf("%x is among Pairs: %v", c.pair, !c.is)
		}
	}
}

func same(t *testing.T, call string, got, want []api.Span) {
	t.Helper()
	if !slices.Equal(got, want) {
		t.Errorf("%s: %x, not %x", call, got, want)
	}
}

func TestSets(t *testing.T) {
	x := tables.New()
	all := names(api.Sets, 0)
	for _, name := range append(all, "", "none", "space", "Space", "SPAC", "SPACES", "SPACE ", " SPACE", "SPACE CONTROL", "\xff") {
		want := spansWhere(api.Sets, 1, 2, func(words []string) bool { return words[0] == name })
		same(t, "Set of "+name, x.Set(name), want)
		if slices.Contains(all, name) != (len(want) > 0) {
			t.Errorf("%q has %x", name, want)
		}
	}
	same(t, "Set of HEBREW", x.Set("HEBREW"), []api.Span{span(0x5B0, 0x5F4), span(0xFB1D, 0xFB2B)})
}

func TestAssigned(t *testing.T) {
	x := tables.New()
	same(t, "all", x.Assigned(true), spansWhere(api.Ranges, 0, 1, func([]string) bool { return true }))
	same(t, "old", x.Assigned(false), spansWhere(api.Ranges, 0, 1, func(words []string) bool { return words[5] == "old" }))
	for _, c := range []struct {
		p        uint32
		all, old bool
	}{{0x41, true, true}, {0x221, true, false}, {0x1F600, true, false}, {0x1E9E, true, false}, {0x378, false, false}, {0, true, true}, {0x10FFFD, true, true}, {0x10FFFE, false, false}, {lastPoint, false, false}} {
		if has(x.Assigned(true), c.p) != c.all || has(x.Assigned(false), c.p) != c.old {
			t.Errorf("%04X", c.p)
		}
	}
}

// checkNames holds a call by names against the lines that have one of them at a place.
func checkNames(t *testing.T, call string, ask func(names ...string) []api.Span, at int) {
	t.Helper()
	all := names(api.Ranges, at)
	lists := [][]string{nil, {}, {""}, {"?"}, {"\xff"}, all, {all[0], all[0]}, {all[1], "none", all[0]}, {strings.Join(all, "")}, {all[0] + " " + all[1]}}
	for i, name := range all {
		lists = append(lists, []string{name}, []string{name, all[(i+3)%len(all)]}, []string{strings.ToLower(name)}, []string{name[:1]}, []string{name + name})
	}
	for _, l := range lists {
		want := spansWhere(api.Ranges, 0, 1, func(words []string) bool { return slices.Contains(l, words[at]) })
		same(t, call+" of "+strings.Join(l, ","), ask(l...), want)
	}
}

func TestCats(t *testing.T) {
	x := tables.New()
	checkNames(t, "Cats", x.Cats, 2)
	same(t, "Cats of Zl, Zp", x.Cats("Zl", "Zp"), []api.Span{span(0x2028, 0x2029)})
	same(t, "Cats of Zp", x.Cats("Zp"), []api.Span{span(0x2029, 0x2029)})
	// What is new has a category, too.
	if !has(x.Cats("So"), 0x1F600) || !has(x.Cats("Lu"), 0x1E9E) {
		t.Error("Cats leaves out what is new")
	}
}

func TestSides(t *testing.T) {
	x := tables.New()
	checkNames(t, "Sides", x.Sides, 3)
	same(t, "Sides of ES", x.Sides("ES"), []api.Span{span('+', '+'), span('-', '-'), span(0xFF0B, 0xFF0B), span(0xFF0D, 0xFF0D)})
	if len(x.Sides("A")) != 0 || len(x.Sides("W")) != 0 {
		t.Error("Sides takes a part of a name")
	}
}

func TestJoins(t *testing.T) {
	x := tables.New()
	for _, names := range []string{"", "U", "D", "R", "L", "C", "T", "DR", "RD", "LD", "DD", "URLCDT", "u", "d", "X", " D ", "D,R", "\x00", "\xffT", "\u00c4T", "old"} {
		want := spansWhere(api.Ranges, 0, 1, func(words []string) bool { return strings.Contains(names, words[4]) })
		same(t, "Joins of "+names, x.Joins(names), want)
	}
	same(t, "Joins of C", x.Joins("C"), []api.Span{span(0x640, 0x640), span(0x200D, 0x200D)})
	if !has(x.Joins("D"), 0x620) || len(x.Joins("")) != 0 || len(x.Joins("x")) != 0 {
		t.Error("Joins")
	}
}

func TestAlike(t *testing.T) {
	got := tables.New().Alike()
	same(t, "Alike", got, spansWhere(api.Decomps, 0, 0, func(words []string) bool { return words[1] == "~" }))
	for p, is := range map[uint32]bool{0xA0: true, 0xFB01: true, 0x2002: true, 0x2000: false, 0xC0: false, 0x344: false, 0x385: false, 0x41: false} {
		if has(got, p) != is {
			t.Errorf("%04X is alike: %v", p, !is)
		}
	}
}

// answers asks all calls of tables, each in more than one way if it has one.
func answers(x *tables.Tables) map[string]any {
	return map[string]any{
		"Full": x.Full(false), "Full by likeness": x.Full(true), "Classes": x.Classes(), "Pairs": x.Pairs(), "Lowers": x.Lowers(), "Widths": x.Widths(),
		"Set": x.Set("SPACE"), "Assigned": x.Assigned(false), "Assigned, all": x.Assigned(true), "Cats": x.Cats("Lu", "Zs"), "Sides": x.Sides("R", "AL"), "Joins": x.Joins("DR"), "Alike": x.Alike(),
	}
}

func TestNothingOfNil(t *testing.T) {
	for _, x := range []*tables.Tables{nil, {}} {
		for call, got := range answers(x) {
			v := reflect.ValueOf(got)
			if v.Kind() == reflect.Struct {
				if v.FieldByName("Keys").Len()+v.FieldByName("Rows").Len() != 0 {
					t.Errorf("%s: %v", call, got)
				}
			} else if v.Len() != 0 {
				t.Errorf("%s: %v", call, got)
			}
		}
	}
}

// spoil sets all that was answered to 0, and puts more behind each list.
func spoil(x *tables.Tables) {
	for _, compat := range []bool{false, true} {
		full := x.Full(compat)
		for _, row := range full.Rows {
			clear(row)
			_ = append(row, 7, 7, 7, 7)
		}
		clear(full.Keys)
		clear(full.Rows)
	}
	clear(x.Classes())
	clear(x.Pairs())
	clear(x.Lowers())
	clear(x.Widths())
	_ = append(x.Classes()[:1], seek.Weight{N: 7})
	_ = append(x.Lowers()[:1], seek.Run{To: 7})
	for _, l := range [][]api.Span{x.Set("SPACE"), x.Assigned(false), x.Assigned(true), x.Cats("Lu", "Zs"), x.Sides("R", "AL"), x.Joins("DR"), x.Alike()} {
		clear(l)
		_ = append(l[:0], span(7, 7), span(9, 9))
	}
}

func TestAnswersAreTheCallersOwn(t *testing.T) {
	x := tables.New()
	ahead := answers(x)
	spoil(x)
	if behind := answers(x); !reflect.DeepEqual(behind, ahead) {
		t.Error("what a caller does with an answer is seen in the next one")
	}
	if other := answers(tables.New()); !reflect.DeepEqual(other, ahead) {
		t.Error("what a caller does with an answer is seen in other tables")
	}
}

func TestRowsShareNothing(t *testing.T) {
	full := tables.New().Full(true)
	want := fullModel(true)
	for i := range full.Rows {
		_ = append(full.Rows[i], 7, 7, 7)
	}
	if !reflect.DeepEqual(full, want) {
		t.Error("a row is put into by what is put behind another one")
	}
	clear(full.Rows[0])
	if !reflect.DeepEqual(full.Rows[1:], want.Rows[1:]) {
		t.Error("two rows share words")
	}
}

func TestNamesThatAreGivenStayAsTheyAre(t *testing.T) {
	l := []string{"Zs", "Lu", "Zs", "none"}
	x := tables.New()
	x.Cats(l...)
	x.Sides(l...)
	if !slices.Equal(l, []string{"Zs", "Lu", "Zs", "none"}) {
		t.Error(l)
	}
}
