package box

import (
	"slices"

	"pencilworks/api"
	"pencilworks/bound"
)

// validNeed tells whether a list is what a box needs.
func validNeed(need []int) bool {
	if !bound.IsFrom(len(need), 1, api.MaxShades) {
		return false
	}
	for _, n := range need {
		if !bound.IsFrom(n, 0, api.MaxNeed) {
			return false
		}
	}
	return slices.Max(need) > 0
}

// validPiles tells whether piles are valid, and may be sold as no other shades than those of a box.
func validPiles(l []api.Pile, shades int) bool {
	if len(l) > api.MaxPiles {
		return false
	}
	for _, p := range l {
		if !bound.IsFrom(p.Shades, 0, 1<<shades-1) || !bound.IsFrom(p.Many, 0, api.MaxMany) {
			return false
		}
	}
	return true
}

// errorOf returns the error of what a box needs, of piles, or of a number of boxes, if there is one.
func errorOf(need []int, l []api.Pile, boxes int) api.Errno {
	switch {
	case !validNeed(need) || !validPiles(l, len(need)):
		return api.ErrArg
	case !bound.IsFrom(boxes, 0, api.MaxMany):
		return api.ErrRange
	}
	return api.OK
}
