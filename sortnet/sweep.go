package sortnet

import "math/bits"

// sweep is the pairs (i, i + far) of a network whose i, below end, have the bit as rest has it: no two of them share a place, so that their order is free.
type sweep struct {
	bit, rest, far, end int
}

// sweeps answers the network for n words, by Batcher's merge exchange: which words stand where they belong is never asked, and any n will do, not powers of two alone.
func sweeps(n int) []sweep {
	if n < 2 || n > most {
		return nil
	}
	var all []sweep
	top := 1 << (bits.Len(uint(n-1)) - 1)
	for bit := top; bit > 0; bit /= 2 {
		all = append(all, sweep{bit, 0, bit, n - bit})
		// What the first sweep left in two rows, which take turns by that bit, is merged from afar to near.
		for reach := top; reach > bit; reach /= 2 {
			far := reach - bit
			all = append(all, sweep{bit, bit, far, n - far})
		}
	}
	return all
}

// addTo answers the pairs, and this sweep's behind them.
func (s sweep) addTo(pairs [][2]int) [][2]int {
	for from := s.rest; from < s.end; from += 2 * s.bit {
		for i := from; i < min(from+s.bit, s.end); i++ {
			pairs = append(pairs, [2]int{i, i + s.far})
		}
	}
	return pairs
}

// count answers how many pairs there are, without going over them.
func (s sweep) count() int {
	rows, left := s.end/(2*s.bit), s.end%(2*s.bit)
	return rows*s.bit + min(max(left-s.rest, 0), s.bit)
}
