package recall

import (
	"math"

	"pencilworks/api"
)

// history is cards, and what comes from each batch.
type history struct {
	cards []api.Batch
	made  map[int]batches
}

func historyOf(l []api.Batch) history {
	h := history{cards: l, made: map[int]batches{}}
	for i := range l {
		h.made[i] = reach(ahead(l), i)
	}
	return h
}

// origins returns the batches that all of a set come from.
func (h history) origins(of batches) (all batches) {
candidates:
	for i := range h.cards {
		for b := range of.each {
			if !h.made[i].has(b) {
				continue candidates
			}
		}
		all = union(all, only(i))
	}
	return all
}

// last returns those of a set from which none of the others comes.
func (h history) last(of batches) batches {
	return of.where(func(b int) bool {
		return of.where(h.made[b].has) == only(b)
	})
}

// suspects returns the batches from which all bad ones come, and no good one.
func (h history) suspects(bad, good batches) batches {
	return h.origins(bad).where(func(b int) bool {
		return good.where(h.made[b].has) == 0
	})
}

func (h history) isSold(batch int) bool { return h.cards[batch].Sold > 0 }

// calledBack returns the batches of which some were sold, and that come from one that can be to blame.
func (h history) calledBack(can batches) batches {
	var made []batches
	for b := range can.each {
		made = append(made, h.made[b])
	}
	return union(made...).where(h.isSold)
}

// sold returns how many pencils were sold of all that comes from a batch.
func (h history) sold(batch int) (n int) {
	for b := range h.made[batch].each {
		n += h.cards[b].Sold
	}
	return n
}

// pencils returns the span from the least to the greatest number of pencils that were sold and are bad, whichever of some batches is to blame; there is at least one.
func (h history) pencils(can batches) api.Span {
	s := api.Span{Lo: math.MaxInt}
	for b := range can.each {
		n := h.sold(b)
		s = api.Span{Lo: min(s.Lo, n), Hi: max(s.Hi, n)}
	}
	return s
}
