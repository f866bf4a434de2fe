package slat

import (
	"pencilworks/api"
	"pencilworks/bound"
)

// firstError returns the first error of a jig, of slats, of limits, of which there may be none, and of whether all other arguments are valid.
func firstError(j api.Jig, lower, upper []api.Slat, limits []int, othersAreValid bool) api.Errno {
	switch {
	case !validJig(j) || !validSlats(lower) || !validSlats(upper):
		return api.ErrArg
	case len(lower) > api.MaxSlats || len(upper) > api.MaxSlats || len(limits) > api.MaxGrades:
		return api.ErrLong
	case !validLimits(limits) || !othersAreValid:
		return api.ErrRange
	}
	return api.OK
}

func validJig(j api.Jig) bool {
	return bound.Within(j.Glue, 0, api.MaxGlue) &&
		bound.Within(j.Lead, 1, api.MaxRod) &&
		bound.Within(j.Side, -api.MaxShift, api.MaxShift) &&
		bound.Within(j.Height, -api.MaxShift, api.MaxShift) &&
		bound.IsFrom(j.Play, 0, api.MaxShift) &&
		bound.IsFrom(j.Grooves, 1, api.MaxGrooves)
}

func validSlats(l []api.Slat) bool {
	for _, s := range l {
		if !bound.Within(s.Thick, 1, api.MaxThick) || !bound.Within(s.Depth, 0, s.Thick.Lo) {
			return false
		}
		if !bound.Within(s.Shift, -api.MaxShift, api.MaxShift) || !bound.Within(s.Pitch, -api.MaxPitch, api.MaxPitch) {
			return false
		}
	}
	return true
}

// validLimits tells whether limits rise within their bounds.
func validLimits(l []int) bool {
	for i, n := range l {
		if !bound.IsFrom(n, 0, api.MaxLimit) || i > 0 && n <= l[i-1] {
			return false
		}
	}
	return true
}
