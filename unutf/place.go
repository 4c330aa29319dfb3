package unutf

import "sabretache/ct"

// widest is how many bytes a point has at most.
const widest = 4

// place is where one of a point's bytes stands: points from first on have one there, and those below next begin with it. It has what is left of the point behind shift bits, and lead are the bits by which a first byte is known.
type place struct {
	first, next uint32
	shift       int
	lead        uint32
}

// places are told from the last byte, which each point has, so that a shorter point leaves out the ones ahead and no gap stands between its bytes.
var places = [widest]place{
	{0x10000, 0x200000, 18, 0xF0},
	{0x800, 0x10000, 12, 0xE0},
	{0x80, 0x800, 6, 0xC0},
	{0, 0x80, 0, 0},
}

// write answers the byte that the point has there, and the mask of: has it one? A first byte and one more are both made every time, so that it doesn't show which it is.
func (p place) write(point ct.Sec) (b, here ct.Sec) {
	rest := ct.Shr(point, p.shift)
	begin := ct.Or(ct.Of(p.lead), rest)
	follow := ct.Or(ct.Of(0x80), ct.And(rest, ct.Of(0x3F)))
	b = ct.Sel(ct.Lt(point, ct.Of(p.next)), begin, follow)
	return b, ct.Not(ct.Lt(point, ct.Of(p.first)))
}
