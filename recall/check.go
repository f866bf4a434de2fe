package recall

import (
	"pencilworks/api"
	"pencilworks/bound"
)

func validCards(l []api.Batch) bool {
	if len(l) > api.MaxBatches {
		return false
	}
	for i, b := range l {
		if !isSet(b.From, i) || !bound.IsFrom(b.Sold, 0, api.MaxMany) {
			return false
		}
	}
	return true
}

// isSet tells whether a number is a set of the first batches, so many of them.
func isSet(n, many int) bool { return bound.IsFrom(n, 0, 1<<many-1) }

// errorOf returns the error of cards and of a batch of them.
func errorOf(l []api.Batch, batch int) api.Errno {
	switch {
	case !validCards(l):
		return api.ErrArg
	case !bound.IsFrom(batch, 0, len(l)-1):
		return api.ErrRange
	}
	return api.OK
}

// errorOfSets returns the error of cards and of sets of their batches.
func errorOfSets(l []api.Batch, sets ...int) api.Errno {
	if !validCards(l) {
		return api.ErrArg
	}
	for _, s := range sets {
		if !isSet(s, len(l)) {
			return api.ErrRange
		}
	}
	return api.OK
}
