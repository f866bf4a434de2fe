package coat

import (
	"iter"
	"slices"

	"pencilworks/api"
)

// coating is what a batch has had: how many coats, and from which hours on the last one could be dry, and surely is. A batch that has had none is dry from the hour 0 on.
type coating struct {
	coats int
	dry   api.Span
}

// shop is a shop at work, after some dips that were right.
type shop struct {
	api.Paint
	had [api.MaxShop]coating
	// racks is from which hour on each rack is free. A batch that may be wet hangs in one rack, and one that surely is dry in none, so that for a batch that can be dipped the racks that are not free are those of others.
	racks []int
	end   int // of the last dip
}

// opened returns a shop before its first dip.
func opened(p api.Paint) shop {
	return shop{Paint: p, racks: make([]int, p.Racks)}
}

// free returns an iterator over the racks that are free at an hour, which is not before the end of the last dip.
func (s shop) free(hour int) iter.Seq[int] {
	return func(yield func(int) bool) {
		for rack, from := range s.racks {
			if from <= hour && !yield(rack) {
				return
			}
		}
	}
}

// first returns the first of what an iterator gives, if it gives anything.
func first[T any](all iter.Seq[T]) (x T, ok bool) {
	for x := range all {
		return x, true
	}
	return x, false
}

// after returns a shop after one more dip, which is right.
func (s shop) after(d api.Dip) shop {
	had := &s.had[d.Batch]
	dry := s.Batches[d.Batch].Dry[had.coats]
	s.end = d.Hour + s.Dip
	had.coats++
	had.dry = api.Span{Lo: s.end + dry.Lo, Hi: s.end + dry.Hi}
	s.racks = slices.Clone(s.racks)
	if rack, ok := first(s.free(s.end)); ok {
		s.racks[rack] = had.dry.Hi
	}
	return s
}

// shopAt returns a shop after those dips of a plan that have ended at an hour.
func shopAt(p api.Paint, l []api.Dip, hour int) shop {
	s := opened(p)
	for _, d := range l {
		if d.Hour+p.Dip > hour {
			break
		}
		s = s.after(d)
	}
	return s
}

// wet returns the span of how many batches can be wet at an hour, which is not before the end of the last dip.
func (s shop) wet(hour int) (many api.Span) {
	for _, had := range s.had {
		if hour < had.dry.Lo {
			many.Lo++
		}
		if hour < had.dry.Hi {
			many.Hi++
		}
	}
	return many
}

// isPainted tells whether each batch has all its coats.
func (s shop) isPainted() bool {
	for batch := range s.Batches {
		if s.hasCoatLeft(api.Dip{Batch: batch}) {
			return false
		}
	}
	return true
}

// errorOfEnd returns the error of a plan that ends here.
func (s shop) errorOfEnd() api.Errno {
	if !s.isPainted() {
		return api.ErrNone
	}
	return api.OK
}

// allDry returns the hour from which on each batch surely is dry.
func (s shop) allDry() int {
	hour := 0
	for _, had := range s.had {
		hour = max(hour, had.dry.Hi)
	}
	return hour
}
