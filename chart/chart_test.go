package chart_test

import (
	"fmt"
	"math"
	"math/rand"
	"reflect"
	"regexp"
	"strconv"
	"strings"
	"testing"

	"sabretache/api"
	"sabretache/chart"
	"sabretache/seek"
)

func span(first, last uint32) api.Span {
	return api.Span{First: first, Last: last}
}

// told is what a call answered, whatever its chart is of.
type told struct {
	items []string
	none  bool
	errno api.Errno
	line  int
}

// Items are told as lines of a chart, by a way of their own.

func rangeLine(r api.Range) string {
	edition := "old"
	if r.New {
		edition = "new"
	}
	return fmt.Sprintf("%04X %04X %s %s %s %s", r.First, r.Last, r.Cat, r.Bidi, r.Join, edition)
}

func weightLine(w seek.Weight) string {
	return fmt.Sprintf("%04X %04X %d", w.First, w.Last, w.N)
}

func decompLine(d api.Decomp) string {
	sign := "="
	switch {
	case d.Compat && d.Alone:
		sign = "both"
	case d.Compat:
		sign = "~"
	case d.Alone:
		sign = "!"
	}
	line := fmt.Sprintf("%04X %s", d.Point, sign)
	for _, p := range d.To {
		line += fmt.Sprintf(" %04X", p)
	}
	return line
}

func runLine(r seek.Run) string {
	return fmt.Sprintf("%04X %04X %04X", r.First, r.Last, r.To)
}

func namedLine(n chart.Named) string {
	return fmt.Sprintf("%s %04X %04X", n.Name, n.First, n.Last)
}

func tell[T any](line func(T) string) func(l []T, e api.Errno, at int) told {
	return func(l []T, e api.Errno, at int) told {
		items := make([]string, 0, len(l))
		for _, item := range l {
			items = append(items, line(item))
		}
		return told{items, len(l) == 0, e, at}
	}
}

const (
	point = `([0-9A-F]{4}|[1-9A-F][0-9A-F]{4}|10[0-9A-F]{4})`
	class = `([1-9]|[1-9][0-9]|1[0-9][0-9]|2[0-4][0-9]|25[0-4])`
)

// kind is one of charts: how it is read, which lines may be, and where its points stand.
type kind struct {
	name        string
	read        func(s string) told
	line        *regexp.Regexp
	first, last int
	rising      bool
	right       []string
}

func kinds() []kind {
	return []kind{
		{
			"Ranges", func(s string) told { return tell(rangeLine)(chart.Ranges(s)) },
			regexp.MustCompile(`\A` + point + ` ` + point + ` [A-Z][a-z] [A-Z]{1,3} [UDRLCT] (old|new)\z`), 0, 1, true,
			[]string{"0041 005A Lu L U old", "005B 0060 Sk ON D new", "0061 0061 Zz NSM R old", "FFFF 10000 Aa A L new", "10001 FFFFF Ll ZZZ C old", "100000 10FFFF Co L T new"},
		},
		{
			"Classes", func(s string) told { return tell(weightLine)(chart.Classes(s)) },
			regexp.MustCompile(`\A` + point + ` ` + point + ` ` + class + `\z`), 0, 1, true,
			[]string{"0000 0000 1", "0001 0314 230", "0315 0315 9", "0316 FFFF 10", "10000 10000 99", "10001 FFFFF 100", "100000 10FFFF 254"},
		},
		{
			"Decomps", func(s string) told { return tell(decompLine)(chart.Decomps(s)) },
			regexp.MustCompile(`\A` + point + ` [=!~]( ` + point + `){1,3}\z`), 0, 0, true,
			[]string{"0000 = 10FFFF", "00C0 = 0041 0300", "00C1 ! 0041", "0344 ! 0308 0301", "FB03 ~ 0066 0066 0069", "FB04 = 0066 0066 006C", "10000 ~ 0000", "10FFFF ~ 10FFFF FFFFF"},
		},
		{
			"Runs", func(s string) told { return tell(runLine)(chart.Runs(s)) },
			regexp.MustCompile(`\A` + point + ` ` + point + ` ` + point + `\z`), 0, 1, true,
			[]string{"0000 0040 10FFFF", "0041 005A 0061", "3000 3000 0020", "FF01 FF5E 0021", "10000 10FFFF 0000"},
		},
		{
			"Sets", func(s string) told { return tell(namedLine)(chart.Sets(s)) },
			regexp.MustCompile(`\A[A-Z]{1,10} ` + point + ` ` + point + `\z`), 1, 2, false,
			[]string{"SPACE 2000 200B", "SPACE 00A0 00A0", "A 0041 0041", "ABCDEFGHIJ 0000 10FFFF", "Z 2000 200B", "SPACE 2000 200B"},
		},
	}
}

func number(t *testing.T, word string) uint64 {
	t.Helper()
	n, err := strconv.ParseUint(word, 16, 32)
	if err != nil {
		t.Fatal(err)
	}
	return n
}

// model says by a pattern and by numbers which lines may be, and in which order.
func (k kind) model(t *testing.T, s string) told {
	var items []string
	if s == "" {
		return told{[]string{}, true, api.OK, 0}
	}
	next := uint64(0)
	for i, line := range strings.Split(s, "\n") {
		wrong := told{[]string{}, true, api.ErrLine, i + 1}
		if !k.line.MatchString(line) {
			return wrong
		}
		words := strings.Fields(line)
		first, last := number(t, words[k.first]), number(t, words[k.last])
		if first > last || k.rising && first < next {
			return wrong
		}
		next = last + 1
		items = append(items, line)
	}
	return told{items, false, api.OK, 0}
}

func (k kind) check(t *testing.T, s string) {
	t.Helper()
	got, want := k.read(s), k.model(t, s)
	if !reflect.DeepEqual(got, want) {
		t.Errorf("%s(%q) = %v, not %v", k.name, s, got, want)
	}
}

func (k kind) accepts(t *testing.T, lines ...string) {
	t.Helper()
	s := strings.Join(lines, "\n")
	if got := k.read(s); got.errno != api.OK || got.line != 0 || !reflect.DeepEqual(got.items, lines) {
		t.Errorf("%s(%q) = %v", k.name, s, got)
	}
	k.check(t, s)
}

func (k kind) refuses(t *testing.T, line int, s string) {
	t.Helper()
	if got := k.read(s); got.errno != api.ErrLine || got.line != line || !got.none {
		t.Errorf("%s(%q) = %v, not line %d", k.name, s, got, line)
	}
	k.check(t, s)
}

func TestEachKindIsReadLineByLine(t *testing.T) {
	for _, k := range kinds() {
		for _, line := range k.right {
			k.accepts(t, line)
		}
		k.accepts(t, k.right...)
	}
}

func TestFieldsOfWhatIsRead(t *testing.T) {
	ranges, _, _ := chart.Ranges("0041 005A Lu L U old\n1F600 1F64F So ON D new")
	if want := []api.Range{
		{Span: span(0x41, 0x5A), Cat: "Lu", Bidi: "L", Join: "U"},
		{Span: span(0x1F600, 0x1F64F), Cat: "So", Bidi: "ON", Join: "D", New: true},
	}; !reflect.DeepEqual(ranges, want) {
		t.Error(ranges)
	}
	classes, _, _ := chart.Classes("0300 0314 230\n0315 0315 1")
	if want := []seek.Weight{{Span: span(0x300, 0x314), N: 230}, {Span: span(0x315, 0x315), N: 1}}; !reflect.DeepEqual(classes, want) {
		t.Error(classes)
	}
	decomps, _, _ := chart.Decomps("00C0 = 0041 0300\n0344 ! 0308 0301\nFB03 ~ 0066 0066 0069")
	if want := []api.Decomp{
		{Point: 0xC0, To: []uint32{0x41, 0x300}},
		{Point: 0x344, To: []uint32{0x308, 0x301}, Alone: true},
		{Point: 0xFB03, To: []uint32{0x66, 0x66, 0x69}, Compat: true},
	}; !reflect.DeepEqual(decomps, want) {
		t.Error(decomps)
	}
	runs, _, _ := chart.Runs("3000 3000 0020\nFF01 FF5E 0021")
	if want := []seek.Run{{Span: span(0x3000, 0x3000), To: 0x20}, {Span: span(0xFF01, 0xFF5E), To: 0x21}}; !reflect.DeepEqual(runs, want) {
		t.Error(runs)
	}
	sets, _, _ := chart.Sets("SPACE 2000 200B\nA 0041 0041")
	if want := []chart.Named{{Name: "SPACE", Span: span(0x2000, 0x200B)}, {Name: "A", Span: span(0x41, 0x41)}}; !reflect.DeepEqual(sets, want) {
		t.Error(sets)
	}
}

func TestEmptyTextHasNoLine(t *testing.T) {
	for _, k := range kinds() {
		if got := k.read(""); !got.none || got.errno != api.OK || got.line != 0 {
			t.Errorf("%s of nothing: %v", k.name, got)
		}
	}
}

func TestEmptyLineIsNone(t *testing.T) {
	for _, k := range kinds() {
		a, b := k.right[0], k.right[1]
		k.refuses(t, 1, "\n")
		k.refuses(t, 1, "\n"+a)
		k.refuses(t, 2, a+"\n")
		k.refuses(t, 2, a+"\n\n"+b)
		k.refuses(t, 3, a+"\n"+b+"\n")
		k.refuses(t, 1, " ")
	}
}

func TestTheFirstWrongLineIsTold(t *testing.T) {
	for _, k := range kinds() {
		for i := range k.right {
			lines := append([]string{}, k.right...)
			for j := i; j < len(lines); j++ {
				lines[j] = "?"
				k.refuses(t, i+1, strings.Join(lines, "\n"))
			}
		}
	}
}

func TestBetweenWordsIsOneBlank(t *testing.T) {
	for _, k := range kinds() {
		for i, line := range k.right {
			words := strings.Split(line, " ")
			ahead := strings.Join(k.right[:i], "\n")
			if i > 0 {
				ahead += "\n"
			}
			for _, between := range []string{"  ", "\t", "", "\u00a0", ",", "\r", " \x00"} {
				for j := 1; j < len(words); j++ {
					k.refuses(t, i+1, ahead+strings.Join(words[:j], " ")+between+strings.Join(words[j:], " "))
					k.check(t, ahead+strings.Join(words[:j], " ")+"\n"+strings.Join(words[j:], " "))
				}
			}
			for _, about := range []string{" ", "\t", "\r", "\x00", "\v", "\ufeff"} {
				k.refuses(t, i+1, ahead+about+line)
				k.refuses(t, i+1, ahead+line+about)
			}
		}
	}
}

func TestWordsAreAsManyAsTheKindHas(t *testing.T) {
	for _, k := range kinds() {
		words := strings.Split(k.right[0], " ")
		for i := range words {
			if i > 0 {
				k.refuses(t, 1, strings.Join(words[:i], " "))
			}
			k.check(t, strings.Join(append(append([]string{}, words[:i]...), words[i+1:]...), " "))
			k.check(t, k.right[0]+" "+words[i])
		}
		if k.name != "Decomps" {
			k.refuses(t, 1, k.right[0]+" "+words[len(words)-1])
		}
	}
}

// with is a line of each kind in which a point stands at each of its places.
func with(p string) map[string][]string {
	return map[string][]string{
		"Ranges":  {p + " 10FFFF Lu L U old", "0000 " + p + " Lu L U old"},
		"Classes": {p + " 10FFFF 1", "0000 " + p + " 1"},
		"Decomps": {p + " = 0041", "0041 = " + p, "0041 ~ 0042 " + p, "0041 ! 0042 0043 " + p, "0041 = " + p + " 0042 0043"},
		"Runs":    {p + " 10FFFF 0041", "0000 " + p + " 0041", "0041 0042 " + p},
		"Sets":    {"A " + p + " 10FFFF", "A 0000 " + p},
	}
}

func TestPointsThatMayBe(t *testing.T) {
	for _, p := range []string{"0000", "0001", "000A", "00FF", "0FFF", "1000", "9999", "ABCD", "D800", "DFFF", "EF01", "FFFE", "FFFF", "10000", "12345", "FFFFF", "100000", "10FFFE", "10FFFF"} {
		lines := with(p)
		for _, k := range kinds() {
			for _, line := range lines[k.name] {
				k.accepts(t, line)
			}
		}
	}
}

func TestPointsThatMayNotBe(t *testing.T) {
	for _, p := range []string{
		"", "0", "41", "041", "FFF", "00000", "00041", "0FFFF", "000041", "010000", "01FFFF", "0FFFFF", "110000", "11FFFF", "200000", "900000", "FFFFFF",
		"1000000", "0010FFFF", "10FFFF0", "100000041", "100000000000041",
		"00ff", "abcd", "10ffff", "00Ff", "004G", "00 41", "0041,", "+0041", "-0041", "+041", "0x41", "0X0041", "U+0041", "00_41", "0_041",
		"00/0", "00:0", "00@0", "00`0", "004\xc1", "\xff\xff\xff\xff", "\u0661\u0661", "\uff11\uff11", "004\x00", "?", "????",
	} {
		lines := with(p)
		for _, k := range kinds() {
			for _, line := range lines[k.name] {
				k.refuses(t, 1, line)
			}
		}
	}
}

func TestAllBytesOfAPoint(t *testing.T) {
	for b := range 256 {
		for at := range 4 {
			word := []byte("1234")
			word[at] = byte(b)
			lines := with(string(word))
			for _, k := range kinds() {
				for _, line := range lines[k.name] {
					k.check(t, line)
				}
			}
		}
	}
}

func TestTheFirstPointIsNotAboveTheLast(t *testing.T) {
	lines := map[string]func(a, b string) string{
		"Ranges":  func(a, b string) string { return a + " " + b + " Lu L U old" },
		"Classes": func(a, b string) string { return a + " " + b + " 7" },
		"Runs":    func(a, b string) string { return a + " " + b + " 0041" },
		"Sets":    func(a, b string) string { return "A " + a + " " + b },
	}
	for _, k := range kinds() {
		line, ok := lines[k.name]
		if !ok {
			continue
		}
		k.accepts(t, line("0042", "0042"))
		k.accepts(t, line("0042", "0043"))
		k.accepts(t, line("FFFF", "10000"))
		k.accepts(t, line("FFFFF", "100000"))
		k.refuses(t, 1, line("0042", "0041"))
		k.refuses(t, 1, line("10000", "FFFF"))
		k.refuses(t, 1, line("100000", "FFFFF"))
		k.refuses(t, 1, line("10FFFF", "0000"))
	}
}

func TestLinesStandInOrder(t *testing.T) {
	rests := map[string]string{"Ranges": " Lu L U old", "Classes": " 7", "Runs": " 0041"}
	for _, k := range kinds() {
		rest, ok := rests[k.name]
		if !ok {
			continue
		}
		k.accepts(t, "0041 0050"+rest, "0051 0051"+rest, "0052 0053"+rest)
		k.accepts(t, "0041 0050"+rest, "0060 0070"+rest)
		k.refuses(t, 2, "0041 0050"+rest+"\n0050 0060"+rest)
		k.refuses(t, 2, "0041 0050"+rest+"\n0045 0046"+rest)
		k.refuses(t, 2, "0041 0041"+rest+"\n0041 0041"+rest)
		k.refuses(t, 2, "0041 0050"+rest+"\n0030 0060"+rest)
		k.refuses(t, 2, "0041 0050"+rest+"\n0030 0031"+rest)
		k.refuses(t, 3, "0041 0050"+rest+"\n0060 0070"+rest+"\n0051 0052"+rest)
		k.refuses(t, 2, "0000 10FFFF"+rest+"\n10FFFF 10FFFF"+rest)
		k.refuses(t, 2, "0000 0000"+rest+"\n0000 0001"+rest)
		k.accepts(t, "0000 0000"+rest, "0001 0001"+rest)
	}
}

func TestDecompsStandInOrderOfTheirPoints(t *testing.T) {
	k := kinds()[2]
	k.accepts(t, "0041 = 0060", "0042 = 0041", "0043 = 0041 0041")
	k.accepts(t, "0000 = 0060", "0001 = 0001")
	k.refuses(t, 2, "0041 = 0060\n0041 = 0061")
	k.refuses(t, 2, "0041 = 0060\n0040 = 0061")
	k.refuses(t, 2, "0000 = 0060\n0000 ~ 0061")
	k.refuses(t, 3, "0041 = 0060\n0043 = 0061\n0042 = 0061")
}

func TestSetsStandInAnyOrder(t *testing.T) {
	k := kinds()[4]
	k.accepts(t, "B 0041 0050", "A 0030 0060", "B 0041 0050", "B 0000 0000", "B 0000 0001")
}

func TestRangesHaveLettersOfTheirKind(t *testing.T) {
	k := kinds()[0]
	for b := range 256 {
		c := string([]byte{byte(b)})
		for _, line := range []string{
			"0041 005A " + c + "u L U old", "0041 005A L" + c + " L U old", "0041 005A " + c + " L U old", "0041 005A Lu" + c + " L U old",
			"0041 005A Lu " + c + " U old", "0041 005A Lu A" + c + " U old", "0041 005A Lu " + c + "AA U old", "0041 005A Lu AA" + c + " U old",
			"0041 005A Lu L " + c + " old", "0041 005A Lu L U" + c + " old", "0041 005A Lu L U " + c + "ld", "0041 005A Lu L U n" + c + "w",
		} {
			k.check(t, line)
		}
	}
	for _, join := range []string{"U", "D", "R", "L", "C", "T"} {
		k.accepts(t, "0041 005A Lu L "+join+" old")
	}
	for _, line := range []string{
		"lu L U old", "LU L U old", "uL L U old", "L L U old", "Lul L U old", " L U old", "L\u00fc L U old", "\u00dcu L U old",
		"Lu l U old", "Lu ABCD U old", "Lu  U old", "Lu Al U old", "Lu A1 U old", "Lu \u00c4 U old",
		"Lu L u old", "Lu L X old", "Lu L UD old", "Lu L  old", "Lu L - old", "Lu L UDRLCT old",
		"Lu L U Old", "Lu L U NEW", "Lu L U ol", "Lu L U olds", "Lu L U newer", "Lu L U ", "Lu L U", "Lu L U 1",
	} {
		k.refuses(t, 1, "0041 005A "+line)
	}
}

func TestClassesHaveNumbers(t *testing.T) {
	k := kinds()[1]
	for n := range 1100 {
		line := "0300 0314 " + strconv.Itoa(n)
		if n >= 1 && n <= 254 {
			k.accepts(t, line)
		} else {
			k.refuses(t, 1, line)
		}
	}
	for _, word := range []string{
		"", "00", "01", "023", "0254", "001", "+1", "-1", "1.", "1e1", "0x1", "1_0", "FE", "1A", "x", "\u0661", " 1", "1 ", "1 1",
		"4294967297", "4294967296", "18446744073709551617", "99999999999999999999999999999999999999",
	} {
		k.refuses(t, 1, "0300 0314 "+word)
	}
}

func TestDecompsHaveSignsAndOneToThreePoints(t *testing.T) {
	k := kinds()[2]
	for b := range 256 {
		c := string([]byte{byte(b)})
		k.check(t, "00C0 "+c+" 0041")
		k.check(t, "00C0 ="+c+" 0041")
		k.check(t, "00C0 "+c+"~ 0041")
	}
	k.accepts(t, "00C0 = 0041")
	k.accepts(t, "00C0 ! 0041 0042")
	k.accepts(t, "00C0 ~ 0041 0042 0043")
	k.accepts(t, "00C0 = 00C0")
	for _, line := range []string{
		"00C0", "00C0 =", "00C0 = ", "00C0 0041", "00C0 0041 0042", "00C0 == 0041", "00C0 =! 0041", "00C0 <> 0041", "00C0  0041", "= 0041 0042",
		"00C0 = 0041 0042 0043 0044", "00C0 = 0041 0042 0043 ", "00C0 = = 0041", "00C0 00C1 = 0041", "00C0 = 0041 ~ 0042",
	} {
		k.refuses(t, 1, line)
	}
}

func TestSetsHaveNames(t *testing.T) {
	k := kinds()[4]
	for n := range 14 {
		line := strings.Repeat("N", n) + " 0041 0042"
		if n >= 1 && n <= 10 {
			k.accepts(t, line)
		} else {
			k.refuses(t, 1, line)
		}
	}
	for b := range 256 {
		c := string([]byte{byte(b)})
		k.check(t, c+" 0041 0042")
		k.check(t, "A"+c+"A 0041 0042")
		k.check(t, "ABCDEFGHI"+c+" 0041 0042")
	}
	for _, name := range []string{"a", "Space", "SPACe", "A1", "A_B", "A-B", "\u00c4", "A\u00c4", "0041"} {
		k.refuses(t, 1, name+" 0041 0042")
	}
}

func TestALineOfAnotherKindIsNone(t *testing.T) {
	all := kinds()
	for _, k := range all {
		for _, other := range all {
			for _, line := range other.right {
				k.check(t, line)
				k.check(t, k.right[0]+"\n"+line)
			}
		}
	}
}

// spoil changes, drops or doubles a byte here and there.
func spoil(r *rand.Rand, s string) string {
	l := []byte(s)
	signs := " \n0123456789ABCDEFGUDRLCTabglonw=!~\x00\xff"
	for range r.Intn(3) {
		at := r.Intn(len(l))
		switch r.Intn(3) {
		case 0:
			l[at] = signs[r.Intn(len(signs))]
		case 1:
			l = append(l[:at], l[at+1:]...)
		case 2:
			l = append(l[:at+1], l[at:]...)
		}
		if len(l) == 0 {
			return ""
		}
	}
	return string(l)
}

func TestSpoiltCharts(t *testing.T) {
	r := rand.New(rand.NewSource(7))
	for _, k := range kinds() {
		right := 0
		for range 5000 {
			lines := append([]string{}, k.right...)
			from := r.Intn(len(lines))
			lines = lines[from : from+1+r.Intn(len(lines)-from)]
			if r.Intn(8) == 0 {
				r.Shuffle(len(lines), func(i, j int) { lines[i], lines[j] = lines[j], lines[i] })
			}
			s := spoil(r, strings.Join(lines, "\n"))
			k.check(t, s)
			if k.model(t, s).errno == api.OK {
				right++
			}
		}
		if right == 0 || right == 5000 {
			t.Errorf("%s: %d of 5000 charts are right", k.name, right)
		}
	}
}

func TestTheChartsOfApi(t *testing.T) {
	all := kinds()
	for _, c := range []struct {
		k kind
		s string
	}{{all[0], api.Ranges}, {all[1], api.Classes}, {all[2], api.Decomps}, {all[3], api.Lowers}, {all[3], api.Widths}, {all[4], api.Sets}} {
		got := c.k.read(c.s)
		if got.errno != api.OK || got.line != 0 || got.none {
			t.Errorf("%s: error %d, line %d", c.k.name, got.errno, got.line)
		}
		if strings.Join(got.items, "\n") != c.s {
			t.Errorf("%s: what is read is not what the chart says", c.k.name)
		}
		c.k.check(t, c.s)
		c.k.refuses(t, strings.Count(c.s, "\n")+2, c.s+"\n")
	}
}

func TestPointsAreWrittenAsWords(t *testing.T) {
	for _, c := range []struct {
		l    []uint32
		want string
	}{
		{nil, ""},
		{[]uint32{}, ""},
		{[]uint32{0}, "0000"},
		{[]uint32{0xA}, "000A"},
		{[]uint32{0xFFF, 0x1000}, "0FFF 1000"},
		{[]uint32{0xD800, 0xABCD, 0xEF01}, "D800 ABCD EF01"},
		{[]uint32{0xFFFF, 0x10000, 0xFFFFF, 0x100000}, "FFFF 10000 FFFFF 100000"},
		{[]uint32{0x10FFFF}, "10FFFF"},
		{[]uint32{0x110000}, "?"},
		{[]uint32{math.MaxUint32, 0x41, 0x110000, 0x110001}, "? 0041 ? ?"},
		{[]uint32{0x41, 0x41, 0x41, 0x41, 0x41}, "0041 0041 0041 0041 0041"},
	} {
		if s := chart.Points(c.l); s != c.want {
			t.Errorf("Points(%x) = %q, not %q", c.l, s, c.want)
		}
	}
}

func TestPointsComeBackAsTheyAreWritten(t *testing.T) {
	for p := uint32(0); p <= 0x10FFFF; p += 0x3FB {
		word := chart.Points([]uint32{p})
		l, e, at := chart.Runs(word + " " + word + " " + word)
		if e != api.OK || at != 0 || len(l) != 1 || l[0] != (seek.Run{Span: span(p, p), To: p}) {
			t.Fatalf("%q: %v %v %d", word, l, e, at)
		}
	}
}

func TestPointsLeavesItsListAsItIs(t *testing.T) {
	l := []uint32{0x41, 0x110000, 0}
	chart.Points(l)
	if !reflect.DeepEqual(l, []uint32{0x41, 0x110000, 0}) {
		t.Error(l)
	}
}

func TestAnswersAreTheCallersOwn(t *testing.T) {
	s := "0041 = 0061 0062\n0042 = 0063\n0043 ~ 0064 0065 0066"
	l, _, _ := chart.Decomps(s)
	for i := range l {
		for j := range l[i].To {
			l[i].To[j] = uint32(i)
		}
		l[i].To = append(l[i].To, 9, 9, 9)
	}
	for i, n := range []int{2, 1, 3} {
		for _, p := range l[i].To[:n] {
			if p != uint32(i) {
				t.Errorf("line %d shares its points: %v", i, l[i].To)
			}
		}
	}
	again, _, _ := chart.Decomps(s)
	if got := tell(decompLine)(again, api.OK, 0); strings.Join(got.items, "\n") != s {
		t.Error(again)
	}
}
