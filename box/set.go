package box

import "iter"

// set is a set of shades, by bits.
type set int

// sets returns an iterator over the sets of so many shades, in the order of their numbers. The empty one, which needs nothing, is not among them.
func sets(shades int) iter.Seq[set] {
	return func(yield func(set) bool) {
		for s := set(1); s < 1<<shades; s++ {
			if !yield(s) {
				return
			}
		}
	}
}

// only returns the set of one shade.
func only(shade int) set { return 1 << shade }

// holds tells whether a shade is one of the set.
func (s set) holds(shade int) bool { return s>>shade&1 == 1 }

// meets tells whether a shade is in both sets.
func (s set) meets(other set) bool { return s&other != 0 }
