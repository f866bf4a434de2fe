package fade

import (
	"pencilworks/api"
	"pencilworks/bound"
)

func validCards(f api.Fading) bool {
	return validMonths(f.Months) && validRefs(f.Refs) && bound.IsFrom(f.Samples, 0, api.MaxSamples) && validChecks(f)
}

func validMonths(l []api.Span) bool {
	if len(l) > api.MaxMonths {
		return false
	}
	for _, s := range l {
		if !validMonth(s) {
			return false
		}
	}
	return true
}

func validMonth(s api.Span) bool { return bound.Within(s, 0, api.MaxLight) }

func validRefs(l []api.Span) bool {
	if len(l) > api.MaxRefs {
		return false
	}
	for _, s := range l {
		if !bound.Within(s, 1, api.MaxFast) {
			return false
		}
	}
	return true
}

// validChecks tells whether the checks of cards are valid; all else of the cards is.
func validChecks(f api.Fading) bool {
	if len(f.Checks) > api.MaxChecks {
		return false
	}
	for _, c := range f.Checks {
		if !bound.IsFrom(c.Month, 0, len(f.Months)) || !isThere(f, c.What, c.Index) {
			return false
		}
	}
	return true
}

// isThere tells whether cards have a reference, or a sample, with a number.
func isThere(f api.Fading, what, index int) bool {
	switch what {
	case api.WhatRef:
		return bound.IsFrom(index, 0, len(f.Refs)-1)
	case api.WhatSample:
		return bound.IsFrom(index, 0, f.Samples-1)
	}
	return false
}
