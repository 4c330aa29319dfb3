package expand

import (
	"sabretache/api"
	"sabretache/ct"
	"sabretache/hangul"
	"sabretache/seek"
)

// slots has something for each of the words that a point may become.
type slots [api.Slots]ct.Sec

// become answers what a point becomes, and the masks of which of its words are there. All three ways are gone every time, so that it doesn't show which of them is taken.
func become(full seek.Table, p ct.Sec) (words, there slots) {
	parts, isSyllable := hangul.Parts(p)
	row, isKey := find(full, p)
	for j := range words {
		words[j] = ct.Sel(isSyllable, parts[j], row[j])
		there[j] = ct.Not(ct.Zero(words[j]))
	}
	// A point that stays is there even if it is 0, which as a word of a row wouldn't be.
	stays := ct.Not(ct.Or(isSyllable, isKey))
	words[0] = ct.Sel(stays, p, words[0])
	there[0] = ct.Or(stays, there[0])
	return words, there
}

// find answers the first words of the point's rows, 0 for those that the rows don't have, and the mask of: is it a key?
func find(full seek.Table, p ct.Sec) (slots, ct.Sec) {
	row, is := seek.Find(full, p)
	var first slots
	copy(first[:], row)
	return first, is
}
