package hue

import (
	"cmp"

	"pencilworks/api"
)

// Both ends of a stain.
const (
	least = iota
	greatest
)

// end is what leads to one end of a stain: which number of a depth, and which one of what takes stains away, or hides them.
type end struct{ depth, against func(s api.Span) int }

func lowest(s api.Span) int { return s.Lo }

func highest(s api.Span) int { return s.Hi }

// ends returns both ends. A stain is deeper the deeper its colour is, and paler the more each run and each wash takes away, so that in one truth all stains are least, and in one all are greatest.
func ends() [2]end {
	return [2]end{
		least:    {depth: lowest, against: highest},
		greatest: {depth: highest, against: lowest},
	}
}

// truth is a truth: how deep each colour is, how deep a stain it hides, and by how much each run and each wash makes stains paler.
type truth struct {
	depths, hides []int
	run, wash     int
}

// truths returns the truths of both ends. A stain that shows in any truth shows in that of the greatest stains, where colours hide least.
func truths(m api.Mill, l []api.Hue) (all [2]truth) {
	for i, e := range ends() {
		u := truth{run: e.against(m.Run), wash: e.against(m.Wash)}
		for _, h := range l {
			u.depths = append(u.depths, e.depth(h.Depth))
			u.hides = append(u.hides, e.against(h.Hide))
		}
		all[i] = u
	}
	return all
}

// stainOf returns the stain of an earlier turn of a plan in a later one; it is less than 0 if more than it was is taken away.
func (u truth) stainOf(plan []api.Turn, earlier, later int) int {
	stain := u.depths[plan[earlier].Hue] - (later-earlier-1)*u.run
	for _, t := range plan[earlier+1 : later+1] {
		stain -= t.Washes * u.wash
	}
	return stain
}

// stains returns the stains of all earlier turns of a plan in a turn.
func (u truth) stains(plan []api.Turn, turn int) (all []int) {
	for earlier := range turn {
		all = append(all, u.stainOf(plan, earlier, turn))
	}
	return all
}

// deepest returns the deepest of several stains.
func deepest[S cmp.Ordered](stain S, others ...S) S {
	for _, other := range others {
		stain = max(stain, other)
	}
	return stain
}

// stain returns the stain in a turn of a plan.
func (u truth) stain(plan []api.Turn, turn int) int {
	return deepest(0, u.stains(plan, turn)...)
}
