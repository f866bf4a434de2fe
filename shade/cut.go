package shade

import (
	"cmp"

	"pencilworks/api"
)

// choice is the best next cut, and how many pencils can be sold beyond the cut before it.
type choice struct {
	made      bool
	cut, sold int
}

// bestCuts returns the first cuts of a scale, which has some, with which most is sold; sold tells how much a shade sells between two cuts.
func bestCuts(s api.Scale, sold func(from, to int) int) (cuts []int, most int) {
	var best [api.MaxTones + 1][api.MaxBlack + 1]choice // by the shades that are left, and the cut at which they begin
	var fill func(left, from int) int
	fill = func(left, from int) int {
		if left == 0 {
			return 0
		}
		if !best[left][from].made {
			// Each of the shades beyond the next cut needs room.
			last := min(from+s.Most, api.MaxBlack-(left-1)*s.Least)
			cut, n := firstBest(from+s.Least, last, func(to int) int { return sold(from, to) + fill(left-1, to) })
			best[left][from] = choice{true, cut, n}
		}
		return best[left][from].sold
	}
	cut, most := firstBest(0, api.MaxBlack-s.Shades*s.Least, func(first int) int { return fill(s.Shades, first) })
	cuts = append(cuts, cut)
	for left := s.Shades; left > 0; left-- {
		cut = best[left][cut].cut
		cuts = append(cuts, cut)
	}
	return cuts, most
}

// firstBest returns the first number from least to most, of which there is at least one, with the greatest worth, and this worth.
func firstBest[W cmp.Ordered](least, most int, worth func(n int) W) (best int, greatest W) {
	best, greatest = least, worth(least)
	for n := least + 1; n <= most; n++ {
		if w := worth(n); w > greatest {
			best, greatest = n, w
		}
	}
	return best, greatest
}
