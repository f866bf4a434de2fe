package fire

import (
	"slices"

	"pencilworks/api"
	"pencilworks/bound"
)

// firstError returns the first error of a kiln, of fires, of how long a program is, and of whether all other arguments are valid.
func firstError(k api.Kiln, l []api.Fire, program []int, othersAreValid bool) api.Errno {
	switch {
	case !validKiln(k) || !validFires(l):
		return api.ErrArg
	case len(program) > api.MaxProgram || len(l) > api.MaxFires:
		return api.ErrLong
	case !othersAreValid:
		return api.ErrRange
	}
	return api.OK
}

func validKiln(k api.Kiln) bool {
	if !bound.IsFrom(len(k.Places), 1, api.MaxPlaces) {
		return false
	}
	for _, p := range k.Places {
		if !bound.Within(p.Gain, api.MinGain, api.MaxGain) || !bound.Within(p.Off, -api.MaxOff, api.MaxOff) {
			return false
		}
	}
	return bound.IsFrom(k.Err, 0, api.MaxErr) && bound.IsFrom(k.Ramp, 1, api.MaxHeat) && bound.IsFrom(k.Step, api.MinStep, api.MaxHeat)
}

func validFires(l []api.Fire) bool {
	for _, f := range l {
		if f.Cool < 0 || f.Soak < f.Cool || f.Top < f.Soak || f.Top > api.MaxLead {
			return false
		}
		if !bound.IsFrom(f.Hold, 1, api.MaxHold) || !bound.IsFrom(f.Rise, 1, api.MaxLead) || !bound.IsFrom(f.Fall, 1, api.MaxLead) {
			return false
		}
	}
	return true
}

// validProgram tells whether there is a program that can be set; it may be too long.
func validProgram(program []int) bool {
	isWrong := func(set int) bool { return !isSetting(set) }
	return len(program) > 0 && !slices.ContainsFunc(program, isWrong)
}

func isSetting(set int) bool {
	return bound.IsFrom(set, 0, api.MaxHeat)
}

// validPlaces tells whether places rise, and there is at least one of them.
func validPlaces(k api.Kiln, places []int) bool {
	for i, p := range places {
		if !isPlace(k, p) || i > 0 && p <= places[i-1] {
			return false
		}
	}
	return len(places) > 0
}

func isPlace(k api.Kiln, place int) bool {
	return bound.IsFrom(place, 0, len(k.Places)-1)
}
