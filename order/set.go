package order

import (
	"iter"
	"math/bits"
)

// set is a set of orders, by bits.
type set int

// sets returns an iterator over the sets of so many orders, in the order of their numbers. The first one is empty.
func sets(orders int) iter.Seq[set] {
	return func(yield func(set) bool) {
		for s := range set(1) << orders {
			if !yield(s) {
				return
			}
		}
	}
}

// has tells whether an order is in the set.
func (s set) has(order int) bool { return s>>order&1 == 1 }

// includes tells whether all orders of another set are in the set.
func (s set) includes(other set) bool { return other&^s == 0 }

func (s set) size() int { return bits.OnesCount(uint(s)) }
