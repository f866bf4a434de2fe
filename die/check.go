package die

import (
	"pencilworks/api"
	"pencilworks/bound"
)

// mostUsed is after how many hundreds of metres a die is asked for at most.
const mostUsed = api.MaxDraws * api.MaxLength

// firstError returns the first error of a press, of draws, and of whether all other arguments are valid.
func firstError(p api.Press, l []api.Draw, othersAreValid bool) api.Errno {
	switch {
	case !validPress(p):
		return api.ErrArg
	case !validDraws(l) || !othersAreValid:
		return api.ErrRange
	}
	return api.OK
}

func validPress(p api.Press) bool {
	if !bound.IsFrom(len(p.Dies), 1, api.MaxDies) {
		return false
	}
	for _, d := range p.Dies {
		if !bound.IsFrom(d.Wide, 1, api.MaxWide) || !bound.Within(d.Wear, 0, api.MaxWear) {
			return false
		}
	}
	return bound.Within(p.Shrink, 0, api.MaxShrink) && bound.IsFrom(p.Change, 0, api.MaxChange)
}

func validDraws(l []api.Draw) bool {
	if len(l) > api.MaxDraws {
		return false
	}
	for _, d := range l {
		if !bound.IsFrom(d.Length, 1, api.MaxLength) || !validWidth(d.Wide) {
			return false
		}
	}
	return true
}

func validWidth(s api.Span) bool {
	return bound.Within(s, 0, api.MaxWide)
}

func isDie(p api.Press, n int) bool {
	return bound.IsFrom(n, 0, len(p.Dies)-1)
}
