package chart

import (
	"strconv"
	"strings"

	"sabretache/api"
)

const (
	lastPoint = 0x10FFFF
	lastClass = 254
)

// Points writes points as words of a chart; a number above all points is a question mark.
func Points(l []uint32) string {
	words := make([]string, 0, len(l))
	for _, p := range l {
		words = append(words, wordOf(p))
	}
	return strings.Join(words, " ")
}

func wordOf(p uint32) string {
	if p > lastPoint {
		return "?"
	}
	digits := strings.ToUpper(strconv.FormatUint(uint64(p), 16))
	return strings.Repeat("0", max(0, 4-len(digits))) + digits
}

// pointOf takes one way of writing a point alone, the one that Points writes.
func pointOf(word string) (uint32, bool) {
	if len(word) < 4 || len(word) > 6 || len(word) > 4 && word[0] == '0' {
		return 0, false
	}
	var p uint32
	for i := range len(word) {
		digit, ok := digitOf(word[i])
		if !ok {
			return 0, false
		}
		p = p<<4 | digit
	}
	if p > lastPoint {
		return 0, false
	}
	return p, true
}

func digitOf(b byte) (uint32, bool) {
	switch {
	case '0' <= b && b <= '9':
		return uint32(b - '0'), true
	case 'A' <= b && b <= 'F':
		return uint32(b-'A') + 10, true
	}
	return 0, false
}

func pointsOf(words []string) ([]uint32, bool) {
	if len(words) > api.Slots {
		return nil, false
	}
	l := make([]uint32, 0, len(words))
	for _, word := range words {
		p, ok := pointOf(word)
		if !ok {
			return nil, false
		}
		l = append(l, p)
	}
	return l, true
}

func spanOf(first, last string) (api.Span, bool) {
	a, isFirst := pointOf(first)
	b, isLast := pointOf(last)
	if !isFirst || !isLast || a > b {
		return api.Span{}, false
	}
	return api.Span{First: a, Last: b}, true
}

// ParseUint takes no sign, but noughts ahead, which a class may not have.
func classOf(word string) (uint32, bool) {
	n, err := strconv.ParseUint(word, 10, 32)
	if err != nil || word[0] == '0' || n > lastClass {
		return 0, false
	}
	return uint32(n), true
}

func isCategory(word string) bool {
	return len(word) == 2 && isCapital(word[0]) && isSmall(word[1])
}

func isName(word string, most int) bool {
	if len(word) < 1 || len(word) > most {
		return false
	}
	for i := range len(word) {
		if !isCapital(word[i]) {
			return false
		}
	}
	return true
}

func isJoin(word string) bool {
	return len(word) == 1 && strings.Contains("UDRLCT", word)
}

func isEdition(word string) bool {
	return word == "old" || word == "new"
}

func isSign(word string) bool {
	return word == "=" || word == "!" || word == "~"
}

func isCapital(b byte) bool { return 'A' <= b && b <= 'Z' }

func isSmall(b byte) bool { return 'a' <= b && b <= 'z' }
