package recall

import "math/bits"

// batches is a set of batches, by bits.
type batches int

// only returns the set of one batch.
func only(batch int) batches { return 1 << batch }

// union returns what is in at least one of some sets.
func union(sets ...batches) (all batches) {
	for _, s := range sets {
		all |= s
	}
	return all
}

// has tells whether a batch is in the set.
func (s batches) has(batch int) bool { return s>>batch&1 == 1 }

// each yields the batches of the set, from the least number on.
func (s batches) each(yield func(int) bool) {
	for ; s != 0; s &= s - 1 {
		if !yield(bits.TrailingZeros(uint(s))) {
			return
		}
	}
}

// where returns those batches of the set of which something is so.
func (s batches) where(so func(int) bool) (some batches) {
	for b := range s.each {
		if so(b) {
			some = union(some, only(b))
		}
	}
	return some
}
