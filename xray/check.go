package xray

import (
	"slices"

	"pencilworks/api"
	"pencilworks/bound"
)

// firstError returns the first error of a crate, of how many looks or places there are, and of whether all other arguments are valid.
func firstError(c api.Crate, many int, othersAreValid bool) api.Errno {
	switch {
	case !validCrate(c):
		return api.ErrArg
	case many > api.MaxLooks:
		return api.ErrLong
	case !othersAreValid:
		return api.ErrRange
	}
	return api.OK
}

func validCrate(c api.Crate) bool {
	isNone := func(pencils int) bool { return !bound.IsFrom(pencils, 1, api.MaxLie) }
	return bound.IsFrom(len(c.Rows), 1, api.MaxRows) &&
		!slices.ContainsFunc(c.Rows, isNone) &&
		bound.IsFrom(c.Cols, 1, api.MaxCols) &&
		bound.IsFrom(c.Clamps, 0, api.MaxCauses) &&
		bound.IsFrom(c.Dies, 0, api.MaxCauses)
}

func validLooks(c api.Crate, l []api.Look) bool {
	for _, x := range l {
		if !isPlace(c, x.Row, x.Col) || !bound.IsFrom(x.Seen, api.SeenGood, api.SeenNothing) {
			return false
		}
	}
	return true
}

func validSample(c api.Crate, l []api.Spot) bool {
	for _, s := range l {
		if !isPlace(c, s.Row, s.Col) {
			return false
		}
	}
	return true
}

func isPlace(c api.Crate, row, col int) bool {
	return bound.IsFrom(row, 0, len(c.Rows)-1) && bound.IsFrom(col, 0, c.Cols-1)
}
