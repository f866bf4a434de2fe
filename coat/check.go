package coat

import (
	"pencilworks/api"
	"pencilworks/bound"
)

func validPaint(p api.Paint) bool {
	return bound.IsFrom(p.Dip, 1, api.MaxDip) &&
		bound.IsFrom(p.Racks, 1, api.MaxRacks) &&
		validBatches(p.Batches)
}

func validBatches(l []api.Coats) bool {
	if !bound.IsFrom(len(l), 1, api.MaxShop) {
		return false
	}
	coats := 0
	for _, b := range l {
		if len(b.Dry) == 0 || !validDry(b.Dry) || !bound.IsFrom(b.Late, 0, api.MaxDry) {
			return false
		}
		coats += len(b.Dry)
	}
	return coats <= api.MaxCoats
}

func validDry(l []api.Span) bool {
	for _, s := range l {
		if !bound.Within(s, 0, api.MaxDry) {
			return false
		}
	}
	return true
}
