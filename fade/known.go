package fade

import (
	"iter"

	"pencilworks/api"
)

// given returns what is known of cards before anything was looked at.
func given(f api.Fading) (l []entry) {
	for i, s := range f.Months {
		l = append(l, lights.at(i+1).above(lights.at(i), s)...)
	}
	for i, s := range f.Refs {
		l = append(l, refs.at(i).above(lights, s)...)
		if i > 0 {
			l = append(l, refs.at(i).moreThan(refs.at(i-1)))
		}
	}
	for i := range f.Samples {
		l = append(l, samples.at(i).above(lights, api.Span{Lo: 1, Hi: api.MaxFast})...)
	}
	return l
}

// meanings returns what a check means: by whether something has faded, what is known of the light, and of what it takes.
func meanings() map[bool]func(light, taken point) entry {
	return map[bool]func(light, taken point) entry{
		true:  func(light, taken point) entry { return light.atLeast(taken) },
		false: func(light, taken point) entry { return taken.moreThan(light) },
	}
}

// looks returns an iterator over what is known by each check, with how many checks there were before it.
func looks(l []api.Check) iter.Seq2[int, entry] {
	return func(yield func(int, entry) bool) {
		means := meanings()
		for before, c := range l {
			x := means[c.Faded](lights.at(c.Month), pointOf(c.What, c.Index))
			if !yield(before, x) {
				return
			}
		}
	}
}

// learn enters what is known of cards. It returns how many checks, from the first one on, some truth fits, and the bounds if these are all checks; or ErrState if there is no truth even without checks.
func learn(f api.Fading) (b *bounds, fitting int, e api.Errno) {
	b = unknown()
	if !b.canEnter(given(f)...) {
		return nil, 0, api.ErrState
	}
	for before, x := range looks(f.Checks) {
		if !b.canEnter(x) {
			return nil, before, api.OK
		}
	}
	return b, len(f.Checks), api.OK
}

// truths returns the bounds of all truths that fit the checks of cards, or the error of these, and of whether all other arguments are valid.
func truths(f api.Fading, othersAreValid bool) (*bounds, api.Errno) {
	switch {
	case !validCards(f):
		return nil, api.ErrArg
	case !othersAreValid:
		return nil, api.ErrRange
	}
	b, fitting, e := learn(f)
	if e != api.OK || fitting < len(f.Checks) {
		return nil, api.ErrState
	}
	return b, api.OK
}
