package slat

import "pencilworks/api"

// reach is from which least to which greatest number something is, of all truths. It has all numbers between them, not only the integers.
type reach api.Span

// exactly returns the reach of a number that is known.
func exactly(n int) reach { return reach{n, n} }

// sum returns the reach of the sum of numbers, none of which depends on another one.
func sum(l ...reach) reach {
	var all reach
	for _, r := range l {
		all.Lo += r.Lo
		all.Hi += r.Hi
	}
	return all
}

// times returns the reach of a number that is taken n times.
func (r reach) times(n int) reach {
	if n < 0 {
		return reach{n * r.Hi, n * r.Lo}
	}
	return reach{n * r.Lo, n * r.Hi}
}

// common returns what two reaches have in common. Its Lo is greater than its Hi if there is nothing.
func (r reach) common(with reach) reach {
	return reach{max(r.Lo, with.Lo), min(r.Hi, with.Hi)}
}

// isWithin tells whether a number is within another reach in each truth.
func (r reach) isWithin(bounds reach) bool { return r.common(bounds) == r }

// meets tells whether a number is within another reach in some truth.
func (r reach) meets(bounds reach) bool {
	both := r.common(bounds)
	return both.Lo <= both.Hi
}

// amount returns how far from 0 a number is at most.
func (r reach) amount() int { return max(-r.Lo, r.Hi) }
