package box

import "pencilworks/api"

// count is how many pencils a set of shades has, and how many it needs for a box.
type count struct{ has, needs int }

// tally is what each set of shades has and needs.
type tally struct {
	shades int
	counts map[set]count
}

// lack is how many pencils a set of shades lacks; it is less than 0 if the set has more than it needs.
type lack struct {
	of      set
	pencils int
}

// has returns how many pencils the piles have whose shades are asked for.
func has(l []api.Pile, asked func(set) bool) (pencils int) {
	for _, p := range l {
		if asked(set(p.Shades)) {
			pencils += p.Many
		}
	}
	return pencils
}

// needs returns how many pencils a box needs of the shades that are asked for.
func needs(need []int, asked func(int) bool) (pencils int) {
	for shade, n := range need {
		if asked(shade) {
			pencils += n
		}
	}
	return pencils
}

// tallyOf returns what each set of shades has of piles, and needs for a box.
func tallyOf(need []int, l []api.Pile) tally {
	t := tally{shades: len(need), counts: map[set]count{}}
	for s := range sets(len(need)) {
		t.counts[s] = count{has: has(l, s.meets), needs: needs(need, s.holds)}
	}
	return t
}

// lacks returns what each set lacks for so many boxes.
func (t tally) lacks(boxes int) (all []lack) {
	for s := range sets(t.shades) {
		c := t.counts[s]
		all = append(all, lack{of: s, pencils: c.needs*boxes - c.has})
	}
	return all
}

// lacking returns the first set that lacks pencils for so many boxes, or the empty one if none does.
func (t tally) lacking(boxes int) set {
	for s := range sets(t.shades) {
		if c := t.counts[s]; c.has < c.needs*boxes {
			return s
		}
	}
	return 0
}

// canFill tells whether so many boxes can be filled: they can if no set lacks pencils (Hall's theorem).
func (t tally) canFill(boxes int) bool { return t.lacking(boxes) == 0 }

// worst returns the first of the lacks of most pencils, if there are any.
func worst(l ...lack) (w lack) {
	for i, x := range l {
		if i == 0 || x.pencils > w.pencils {
			w = x
		}
	}
	return w
}

// greatest returns the greatest number from 0 to most that can be; 0 can be, and where a number can be, all lesser ones can.
func greatest[N ~int | ~int64](most N, can func(N) bool) N {
	var least N
	for least < most {
		// Half of the numbers, rounded up, so that those that are left grow fewer.
		if half := most - (most-least)/2; can(half) {
			least = half
		} else {
			most = half - 1
		}
	}
	return least
}
