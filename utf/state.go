package utf

import "sabretache/ct"

// lead is first bytes, from first to last, that are gone on from likewise: bits are those that they give to the point, more is how many bytes come behind them, of which the next one is from low to high.
type lead struct {
	first, last, bits, more, low, high uint32
}

// leads are the rows of RFC 3629, section 4: they leave out what could be written shorter, halves of pairs, and what is above 10FFFF.
var leads = [9]lead{
	{0x00, 0x7F, 0x7F, 0, 0, 0},
	{0xC2, 0xDF, 0x1F, 1, 0x80, 0xBF},
	{0xE0, 0xE0, 0x0F, 2, 0xA0, 0xBF},
	{0xE1, 0xEC, 0x0F, 2, 0x80, 0xBF},
	{0xED, 0xED, 0x0F, 2, 0x80, 0x9F},
	{0xEE, 0xEF, 0x0F, 2, 0x80, 0xBF},
	{0xF0, 0xF0, 0x07, 3, 0x90, 0xBF},
	{0xF1, 0xF3, 0x07, 3, 0x80, 0xBF},
	{0xF4, 0xF4, 0x07, 3, 0x80, 0x8F},
}

// state is what is known behind a byte: the point as far as it has come, how many bytes of it are awaited, and from which to which the next one may be.
type state struct {
	point, more, low, high ct.Sec
}

// begin answers the state behind a first byte, and the mask of: may it be one?
func begin(b ct.Sec) (s state, is ct.Sec) {
	for _, l := range leads {
		here := between(b, ct.Of(l.first), ct.Of(l.last))
		behind := state{
			point: ct.And(b, ct.Of(l.bits)),
			more:  ct.Of(l.more),
			low:   ct.Of(l.low),
			high:  ct.Of(l.high),
		}
		s = choose(here, behind, s)
		is = ct.Or(is, here)
	}
	return s, is
}

// follow answers the state behind one more byte, and the mask of: may it be that one?
func (s state) follow(b ct.Sec) (state, ct.Sec) {
	behind := state{
		point: ct.Or(ct.Shl(s.point, 6), ct.And(b, ct.Of(0x3F))),
		more:  ct.Sub(s.more, ct.Of(1)),
		low:   ct.Of(0x80),
		high:  ct.Of(0xBF),
	}
	return behind, between(b, s.low, s.high)
}

// choose answers s where the mask is of yes, and t where it is of no.
func choose(m ct.Sec, s, t state) state {
	return state{
		point: ct.Sel(m, s.point, t.point),
		more:  ct.Sel(m, s.more, t.more),
		low:   ct.Sel(m, s.low, t.low),
		high:  ct.Sel(m, s.high, t.high),
	}
}

// between answers the mask of: is the byte from low to high?
func between(b, low, high ct.Sec) ct.Sec {
	return ct.Not(ct.Or(ct.Lt(b, low), ct.Lt(high, b)))
}
