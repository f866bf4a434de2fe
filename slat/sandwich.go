package slat

import (
	"iter"
	"math"

	"pencilworks/api"
)

// sandwich is a lower slat and an upper one, and how they are made one.
type sandwich struct {
	jig          api.Jig
	lower, upper api.Slat
}

// places yields each groove of a slat, and the reach of its place.
func places(s api.Slat, grooves int) iter.Seq2[int, reach] {
	return func(yield func(int, reach) bool) {
		place := reach(s.Shift)
		for groove := range grooves {
			if !yield(groove, place) {
				return
			}
			place = sum(place, reach(s.Pitch))
		}
	}
}

// condition is a number of a sandwich that has to be within some bounds for it to close.
type condition struct {
	number func(sandwich) reach
	bounds reach
}

// conditions returns all that has to be so for a sandwich to close. By how much grooves miss one another changes along a straight line, so that those between the first and the last ones need not be looked at.
func (x sandwich) conditions() []condition {
	return []condition{
		{sandwich.room, reach{0, math.MaxInt}},
		{sandwich.firstMiss, x.play()},
		{sandwich.lastMiss, x.play()},
	}
}

// closes tells whether all conditions are met; isMet tells whether one is, by its number and its bounds.
func (x sandwich) closes(isMet func(number, bounds reach) bool) bool {
	for _, c := range x.conditions() {
		if !isMet(c.number(x), c.bounds) {
			return false
		}
	}
	return true
}

// play returns by how much grooves may miss one another, to both sides.
func (x sandwich) play() reach { return reach{-x.jig.Play, x.jig.Play} }

// room returns how much higher than a lead is what it lies in.
func (x sandwich) room() reach {
	return sum(reach(x.lower.Depth), reach(x.upper.Depth), reach(x.jig.Glue), reach(x.jig.Lead).times(-1))
}

// firstMiss returns by how much the first grooves miss one another.
func (x sandwich) firstMiss() reach {
	return sum(reach(x.lower.Shift), reach(x.upper.Shift).times(-1))
}

// lastMiss returns by how much the last grooves miss one another in the truths in which the first ones do not by too much: the same truth has to do for both.
func (x sandwich) lastMiss() reach {
	step := sum(reach(x.lower.Pitch), reach(x.upper.Pitch).times(-1))
	return sum(x.firstMiss().common(x.play()), step.times(x.jig.Grooves-1))
}

// leads returns how far off each lead can lie.
func (x sandwich) leads() []lead {
	leads := make([]lead, x.jig.Grooves)
	for groove := range leads {
		leads[groove] = lead{side: reach(x.jig.Side).times(-2), height: x.height()}
	}
	for _, s := range []api.Slat{x.lower, x.upper} {
		for groove, place := range places(s, x.jig.Grooves) {
			leads[groove].side = sum(leads[groove].side, place)
		}
	}
	return leads
}

// height returns how far off leads lie in height, doubled.
func (x sandwich) height() reach {
	return sum(
		reach(x.lower.Thick),
		reach(x.upper.Thick).times(-1),
		reach(x.jig.Glue).times(-1),
		reach(x.lower.Depth).times(-2),
		reach(x.jig.Lead),
		reach(x.jig.Height).times(-2),
	)
}

// lead is how far off a lead can lie, to the side and in height, both doubled.
type lead struct{ side, height reach }

// isWithin tells whether a lead is surely within a limit. What is off to the side does not depend on what is off in height, so that both can be as far off as they ever are in one truth.
func (l lead) isWithin(limit int) bool {
	side, height := l.side.amount(), l.height.amount()
	return side*side+height*height <= 4*limit*limit
}

// grade returns the grade that a lead has of some limits.
func (l lead) grade(limits []int) int {
	for grade, limit := range limits {
		if l.isWithin(limit) {
			return grade
		}
	}
	return api.NoGrade
}
