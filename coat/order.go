package coat

import (
	"cmp"
	"slices"

	"pencilworks/api"
)

// earliest returns the earliest of several hours.
func earliest[H cmp.Ordered](hour H, others ...H) H {
	for _, other := range others {
		hour = min(hour, other)
	}
	return hour
}

// soonest returns the next dip of a batch, at the first hour at which it can be dry, and has a rack; it may be too late, and the batch may have all its coats.
func (s shop) soonest(batch int) api.Dip {
	rack := earliest(s.racks[0], s.racks[1:]...)
	return api.Dip{Batch: batch, Hour: max(s.end, s.had[batch].dry.Hi, rack-s.Dip)}
}

// next returns the next dip of an order, or its first error.
func (s shop) next(batch int) (api.Dip, api.Errno) {
	if e := s.firstError(api.Dip{Batch: batch}, api.ErrRange, api.ErrFull); e != api.OK {
		return api.Dip{}, e
	}
	d := s.soonest(batch)
	return d, s.firstError(d, api.ErrRefuse)
}

// timed returns the dips of an order at its times, up to the first one with an error, and the error.
func timed(p api.Paint, order []int) (l []api.Dip, e api.Errno) {
	s := opened(p)
	for _, batch := range order {
		d, e := s.next(batch)
		if e != api.OK {
			return l, e
		}
		l = append(l, d)
		s = s.after(d)
	}
	return l, s.errorOfEnd()
}

// earliestOrder returns the first of the orders with which all is done at the earliest hour, and this hour; or no order, if none has times.
func earliestOrder(p api.Paint) (order []int, hour int) {
	left := checks(api.ErrFull, api.ErrRefuse) // the other ones hold of a dip at its time
	var try func(s shop, tried []int)
	// Orders are tried in lexicographic order, so that the first of those that do equally well remains.
	try = func(s shop, tried []int) {
		if s.isPainted() {
			if done := s.allDry(); len(order) == 0 || done < hour {
				order, hour = slices.Clone(tried), done
			}
			return
		}
	batches:
		for batch := range s.Batches {
			d := s.soonest(batch)
			for _, holds := range left {
				if !holds(s, d) {
					continue batches
				}
			}
			try(s.after(d), append(tried, batch))
		}
	}
	try(opened(p), nil)
	return order, hour
}
