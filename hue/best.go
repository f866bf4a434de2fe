package hue

import (
	"iter"

	"pencilworks/api"
)

// left is what is left in the mill: the colours that were run, a set by bits, and the stain that the next one has of them. What comes next depends on nothing else of the turns before it, as all stains grow paler by the same steps.
type left struct{ run, stain int }

// rest is the turns that still come, what they cost, and whether a plan that ends with them can be whole.
type rest struct {
	turns   []api.Turn
	cost    int
	isWhole bool
}

// washed returns what is left after no washes, one, and so on. A wash that takes nothing away is left out: a plan without it costs no more, and comes first.
func (u truth) washed(mill left) []left {
	all := []left{mill}
	for range api.MaxWashes {
		more := left{run: mill.run, stain: deepest(0, mill.stain-u.wash)}
		if more == mill {
			break
		}
		mill = more
		all = append(all, mill)
	}
	return all
}

// after returns what is left after a colour that is run.
func (u truth) after(mill left, hue int) left {
	return left{run: mill.run | 1<<hue, stain: deepest(u.depths[hue], mill.stain-u.run)}
}

// next returns an iterator over the turns that can come next, the first ones first, and what is left in the mill when their colours are run.
func (u truth) next(mill left) iter.Seq2[api.Turn, left] {
	return func(yield func(api.Turn, left) bool) {
		washed := u.washed(mill)
	hues:
		for hue, hides := range u.hides {
			if mill.run&(1<<hue) != 0 {
				continue
			}
			washes := 0
			for washed[washes].stain > hides {
				washes++
				if washes == len(washed) {
					continue hues
				}
			}
			for ; washes < len(washed); washes++ {
				if !yield(api.Turn{Hue: hue, Washes: washes}, washed[washes]) {
					return
				}
			}
		}
	}
}

// cheapest returns the first of the whole plans that cost least, if there is one, in the truth of the greatest stains.
func (u truth) cheapest(price int) rest {
	all := 1<<len(u.depths) - 1
	known := map[left]rest{}
	var try func(mill left) rest
	try = func(mill left) rest {
		if best, ok := known[mill]; ok {
			return best
		}
		best := rest{isWhole: mill.run == all}
		// Of turns that cost as much, the first ones remain.
		for t, washed := range u.next(mill) {
			further := try(u.after(washed, t.Hue))
			cost := t.Washes*price + washed.stain + further.cost
			if further.isWhole && (!best.isWhole || cost < best.cost) {
				best = rest{turns: append([]api.Turn{t}, further.turns...), cost: cost, isWhole: true}
			}
		}
		known[mill] = best
		return best
	}
	return try(left{})
}
