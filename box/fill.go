package box

import (
	"slices"

	"pencilworks/api"
)

// assignment is how many pencils of each pile are sold as each shade.
type assignment [api.MaxPiles][api.MaxShades]int

// sale is pencils of a pile, by its shades, that are sold as one of them.
type sale struct {
	of      set
	as      int
	pencils int
}

// wanted returns how many pencils of each shade fill so many boxes. All of them together are like one greater box.
func wanted(need []int, boxes int) (all []int) {
	for _, n := range need {
		all = append(all, n*boxes)
	}
	return all
}

// canSell tells whether no set of shades lacks pencils after a sale, so that the box can still be filled.
func (t tally) canSell(x sale) bool {
	can := true
search:
	for s := range sets(t.shades) {
		switch c := t.counts[s]; {
		case s.holds(x.as) || !s.meets(x.of):
			// The set has as many fewer as it needs fewer, or nothing changes for it.
			continue
		case c.has-x.pencils < c.needs:
			can = false
			break search
		}
	}
	return can
}

// sell takes the pencils of a sale from what sets have, and from what they need.
func (t tally) sell(x sale) {
	for s := range sets(t.shades) {
		c := t.counts[s]
		if s.meets(x.of) {
			c.has -= x.pencils
		}
		if s.holds(x.as) {
			c.needs -= x.pencils
		}
		t.counts[s] = c
	}
}

// assign returns the assignment for a box that can be filled in which the first numbers are as great as they can be.
func assign(need []int, l []api.Pile) (a assignment) {
	t := tallyOf(need, l)
	for pile, p := range l {
		for shade := range need {
			x := sale{of: set(p.Shades), as: shade}
			if !x.of.holds(shade) {
				continue
			}
			open := t.counts[only(shade)].needs
			x.pencils = greatest(min(p.Many, open), func(n int) bool {
				return t.canSell(sale{of: x.of, as: shade, pencils: n})
			})
			t.sell(x)
			p.Many -= x.pencils
			a[pile][shade] = x.pencils
		}
	}
	return a
}

// rows returns an assignment of so many piles to so many shades as rows, each of which has its own memory.
func (a assignment) rows(piles, shades int) (all [][]int) {
	for _, row := range a[:piles] {
		all = append(all, slices.Clone(row[:shades]))
	}
	return all
}

// unused returns the greatest number of pencils of a pile that can be left when boxes are filled.
func unused(need []int, l []api.Pile, boxes, pile int) int {
	return greatest(l[pile].Many, func(n int) bool {
		fewer := slices.Clone(l)
		fewer[pile].Many -= n
		return tallyOf(need, fewer).canFill(boxes)
	})
}
