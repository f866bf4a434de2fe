package fade

import "pencilworks/api"

// point is one of the numbers that a truth gives: the light after some months, or how much light a reference or a sample takes.
type point int

// room is how many points of one kind there can be: most are lights, one of them after no months.
const room = api.MaxMonths + 1

// The first point of each kind. That of the lights is the light after no months, which is 0: how far a point is above it is the point's number.
const (
	lights point = iota * room
	refs
	samples
	points // how many points there are
)

// at returns the point of the same kind with a number.
func (p point) at(n int) point { return p + point(n) }

// first returns so many points of the same kind, from this one on.
func (p point) first(many int) (l []point) {
	for n := range many {
		l = append(l, p.at(n))
	}
	return l
}

// pointOf returns the point of what can be looked at.
func pointOf(what, index int) point {
	at := samples.at
	if what == api.WhatRef {
		at = refs.at
	}
	return at(index)
}

// entry is something that is known: that high is at most so much above low.
type entry struct {
	high, low point
	most      int
}

// atLeast returns that a point is no less than another one.
func (p point) atLeast(other point) entry { return entry{high: other, low: p} }

// moreThan returns that a point is more than another one. All are integers.
func (p point) moreThan(other point) entry { return entry{high: other, low: p, most: -1} }

// above returns that a point is above another one by a number of a span.
func (p point) above(other point, s api.Span) []entry {
	return []entry{{high: p, low: other, most: s.Hi}, {high: other, low: p, most: -s.Lo}}
}
