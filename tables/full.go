package tables

import (
	"cmp"
	"slices"

	"sabretache/api"
	"sabretache/seek"
)

// full answers the table of what the points of those lines that count become. The lines rise by their points, and so do its keys.
func full(lines []api.Decomp, compat bool) seek.Table {
	counted := slices.DeleteFunc(slices.Clone(lines), func(d api.Decomp) bool { return d.Compat && !compat })
	var t seek.Table
	for _, d := range counted {
		row := make([]uint32, api.Slots)
		copy(row, become(counted, d.Point))
		t.Keys = append(t.Keys, d.Point)
		t.Rows = append(t.Rows, row)
	}
	return t
}

// become answers what a point becomes in full by these lines. It ends, since no point of the charts leads back to itself.
func become(lines []api.Decomp, p uint32) []uint32 {
	at, ok := slices.BinarySearchFunc(lines, p, func(d api.Decomp, p uint32) int { return cmp.Compare(d.Point, p) })
	if !ok {
		return []uint32{p}
	}
	var all []uint32
	for _, next := range lines[at].To {
		all = append(all, become(lines, next)...)
	}
	return all
}
