package xray

import (
	"iter"
	"math/bits"
)

// set is rows, or columns, by bits.
type set int

// below returns the set of the numbers from 0 to n - 1.
func below(n int) set { return 1<<n - 1 }

// only returns the set of one number.
func only(n int) set { return 1 << n }

func (s set) has(n int) bool { return s>>n&1 == 1 }

func (s set) size() int { return bits.OnesCount(uint(s)) }

// without returns what is in a set, but not in another one.
func (s set) without(other set) set { return s &^ other }

// members yields what is in a set.
func (s set) members(yield func(int) bool) {
	for ; s != 0; s &= s - 1 {
		if !yield(bits.TrailingZeros(uint(s))) {
			return
		}
	}
}

// parts returns an iterator over the sets of at most so many members of a set. The first one is empty.
func (s set) parts(most int) iter.Seq[set] {
	return func(yield func(set) bool) {
		for part := range s + 1 {
			if part.without(s) == 0 && part.size() <= most && !yield(part) {
				return
			}
		}
	}
}

// foremost returns the first of the things of which a number is greatest, if there are any.
func foremost[T any](number func(T) int, l ...T) (best T) {
	most := 0
	for i, x := range l {
		if n := number(x); i == 0 || n > most {
			best, most = x, n
		}
	}
	return best
}
