package coat

import (
	"pencilworks/api"
	"pencilworks/bound"
)

// check tells whether something holds of a dip that is the next one of a shop. It may rely on the checks that are named before it.
type check func(s shop, d api.Dip) bool

// checks returns the checks that some errors name.
func checks(names ...api.Errno) []check {
	named := map[api.Errno]check{
		api.ErrRange:  shop.canBe,
		api.ErrFull:   shop.hasCoatLeft,
		api.ErrOrder:  shop.isIdle,
		api.ErrState:  shop.isDry,
		api.ErrRefuse: shop.isInTime,
		api.ErrShort:  shop.hasRack,
	}
	var l []check
	for _, e := range names {
		l = append(l, named[e])
	}
	return l
}

// firstError returns the first of some errors whose check does not hold of a dip, if there is one.
func (s shop) firstError(d api.Dip, names ...api.Errno) api.Errno {
	for i, holds := range checks(names...) {
		if !holds(s, d) {
			return names[i]
		}
	}
	return api.OK
}

// canBe tells whether there are such a batch and such an hour.
func (s shop) canBe(d api.Dip) bool {
	return bound.IsFrom(d.Batch, 0, len(s.Batches)-1) && bound.IsFrom(d.Hour, 0, api.MaxHour)
}

func (s shop) hasCoatLeft(d api.Dip) bool {
	return s.had[d.Batch].coats < len(s.Batches[d.Batch].Dry)
}

// isIdle tells whether the last dip has ended when a dip begins.
func (s shop) isIdle(d api.Dip) bool { return d.Hour >= s.end }

// isDry tells whether the batch surely is dry when a dip begins.
func (s shop) isDry(d api.Dip) bool { return d.Hour >= s.had[d.Batch].dry.Hi }

// isInTime tells whether the last coat, if there is one, still takes another one when a dip begins.
func (s shop) isInTime(d api.Dip) bool {
	had := s.had[d.Batch]
	return had.coats == 0 || d.Hour <= had.dry.Lo+s.Batches[d.Batch].Late
}

// hasRack tells whether a rack is free when a dip ends.
func (s shop) hasRack(d api.Dip) bool {
	_, ok := first(s.free(d.Hour + s.Dip))
	return ok
}
