package slat

// heap gives back the things that are in it by their order.
type heap[T any] struct {
	// No thing is before the one that is above it, at half of its place less one, so that the first one is at the place 0.
	things   []T
	isBefore func(a, b T) bool
}

// put puts a thing into a heap.
func (h *heap[T]) put(x T) {
	h.things = append(h.things, x)
	for i := len(h.things) - 1; i > 0; {
		above := (i - 1) / 2
		if !h.swapped(above, i) {
			return
		}
		i = above
	}
}

// take takes the first thing out of a heap, if there is one.
func (h *heap[T]) take() (first T, ok bool) {
	last := len(h.things) - 1
	if last < 0 {
		return first, false
	}
	first = h.things[0]
	h.things[0] = h.things[last]
	h.things = h.things[:last]
	h.sink()
	return first, true
}

// sink moves the thing at the place 0 to where it belongs.
func (h *heap[T]) sink() {
	for i := 0; 2*i+1 < len(h.things); {
		next := 2*i + 1
		if next+1 < len(h.things) && h.isBefore(h.things[next+1], h.things[next]) {
			next++
		}
		if !h.swapped(i, next) {
			return
		}
		i = next
	}
}

// swapped swaps the things at two places if the one below is before the one above it, and tells whether it did.
func (h *heap[T]) swapped(above, below int) bool {
	if !h.isBefore(h.things[below], h.things[above]) {
		return false
	}
	h.things[above], h.things[below] = h.things[below], h.things[above]
	return true
}
