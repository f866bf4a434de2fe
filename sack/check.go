package sack

import (
	"pencilworks/api"
	"pencilworks/bound"
)

// valid tells whether sacks are valid, and a batch out of them.
func valid(l []api.Sack, b []api.Take) bool {
	if !validSacks(l) || len(b) < 1 || len(b) > api.MaxTakes {
		return false
	}
	for _, t := range b {
		if !isIndex(l, t.Sack) || !bound.Within(t.Weight, 1, api.MaxTake) {
			return false
		}
	}
	return true
}

func validSacks(l []api.Sack) bool {
	if len(l) > api.MaxSacks {
		return false
	}
	for _, s := range l {
		if !bound.Within(s.Water, 0, api.MaxWet) || !bound.Within(s.Carbon, 0, api.MaxThou) || !bound.Within(s.Loss, 0, api.MaxWet) {
			return false
		}
	}
	return true
}

func isIndex(l []api.Sack, i int) bool {
	return 0 <= i && i < len(l)
}
