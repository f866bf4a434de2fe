package die

import (
	"slices"

	"pencilworks/api"
)

// state is what is known of the dies before a draw: how many hundreds of metres were drawn through each of them, and, at last, which one is on the press.
type state [api.MaxDies + 1]int

const (
	onPress = api.MaxDies
	noDie   = -1
)

// outset is the state before the first draw.
func outset() state { return state{onPress: noDie} }

// after returns the state after a draw with a die.
func (s state) after(d api.Draw, die int) state {
	s[die] += d.Length
	s[onPress] = die
	return s
}

// cost returns what it costs to draw with a die.
func (s state) cost(p api.Press, die int) int {
	if s[onPress] == noDie || s[onPress] == die {
		return die
	}
	return die + p.Change
}

// rest is a plan for the last draws, and what it costs, if it is good.
type rest struct {
	plan   []int
	cost   int
	isGood bool
}

// before returns the rest with one more die before it.
func (r rest) before(die, cost int) rest {
	return rest{slices.Concat([]int{die}, r.plan), cost + r.cost, r.isGood}
}

// isBetter tells whether a rest that comes later than another one is to be preferred to it.
func (r rest) isBetter(than rest) bool {
	return r.isGood && (!than.isGood || r.cost < than.cost)
}

// cheapest returns the first of the good plans that cost least, if there is one.
func cheapest(p api.Press, l []api.Draw) rest {
	// Each draw has a length, so that what was drawn through all dies also tells which draws are left.
	known := map[state]rest{}
	var try func(s state, l []api.Draw) rest
	try = func(s state, l []api.Draw) rest {
		if len(l) == 0 {
			return rest{isGood: true}
		}
		if r, ok := known[s]; ok {
			return r
		}
		var best rest
	allDies:
		for n, die := range dies(p) {
			switch {
			case best.isGood && best.cost <= n:
				break allDies // this die and all further ones cost no less, whatever follows
			case !die.doesFor(l[0], s[n]):
				continue
			}
			if r := try(s.after(l[0], n), l[1:]).before(n, s.cost(p, n)); r.isBetter(best) {
				best = r
			}
		}
		known[s] = best
		return best
	}
	return try(outset(), l)
}
