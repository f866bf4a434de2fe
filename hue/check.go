package hue

import (
	"pencilworks/api"
	"pencilworks/bound"
)

func validMill(m api.Mill) bool {
	return bound.Within(m.Run, 0, api.MaxDepth) &&
		bound.Within(m.Wash, 0, api.MaxDepth) &&
		bound.IsFrom(m.Price, 0, api.MaxPrice)
}

func validHues(l []api.Hue) bool {
	if len(l) > api.MaxHues {
		return false
	}
	for _, h := range l {
		if !bound.Within(h.Depth, 0, api.MaxDepth) || !bound.Within(h.Hide, 0, api.MaxDepth) {
			return false
		}
	}
	return true
}

// isHue tells whether a colour of a list has a number.
func isHue(l []api.Hue, n int) bool { return bound.IsFrom(n, 0, len(l)-1) }

func isPlan(l []api.Hue, plan []api.Turn) bool {
	if len(plan) > api.MaxTurns {
		return false
	}
	for _, t := range plan {
		if !isHue(l, t.Hue) || !bound.IsFrom(t.Washes, 0, api.MaxWashes) {
			return false
		}
	}
	return true
}

// errorOfPlan returns the error of a mill, of colours, or of a plan of theirs, if there is one.
func errorOfPlan(m api.Mill, l []api.Hue, plan []api.Turn) api.Errno {
	switch {
	case !validMill(m) || !validHues(l):
		return api.ErrArg
	case !isPlan(l, plan):
		return api.ErrRange
	}
	return api.OK
}
