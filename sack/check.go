package sack

import "pencilworks/api"

// valid tells whether sacks are valid, and a batch out of them.
func valid(l []api.Sack, b []api.Take) bool {
	if !validSacks(l) || len(b) < 1 || len(b) > api.MaxTakes {
		return false
	}
	for _, t := range b {
		if !isIndex(l, t.Sack) || !within(t.Weight, 1, api.MaxTake) {
			return false
		}
	}
	return true
}

func validSacks(l []api.Sack) bool {
	if len(l) > api.MaxSacks {
		return false
	}
	for _, s := range l {
		if !within(s.Water, 0, api.MaxWet) || !within(s.Carbon, 0, api.MaxThou) || !within(s.Loss, 0, api.MaxWet) {
			return false
		}
	}
	return true
}

// within tells whether a span is valid, and contains only numbers between two bounds.
func within(s api.Span, least, most int) bool {
	return least <= s.Lo && s.Lo <= s.Hi && s.Hi <= most
}

func isIndex(l []api.Sack, i int) bool {
	return 0 <= i && i < len(l)
}
