package xray

import "pencilworks/api"

// missed returns how many pencils can be bad at most if all are good in places that lie in some lines. Which of the places of those lines were looked at makes no difference.
func (c crate) missed(seen lines) int {
	return c.bad(c.worst(c.lines().without(seen), c.Clamps, c.Dies))
}

// places returns how many places a crate has. They are numbered by their rows, then by their columns.
func (c crate) places() int { return len(c.Rows) * c.Cols }

// place returns the place with a number.
func (c crate) place(n int) api.Spot { return api.Spot{Row: n / c.Cols, Col: n % c.Cols} }

// linesFrom returns the lines in which a place lies, from that with a number on.
func (c crate) linesFrom(n int) (all lines) {
	for ; n < c.places(); n++ {
		all = all.with(c.place(n))
	}
	return all
}

// seenAtBest returns the lines of some places and of so many more, from that with a number on, such that least is missed: each place can lie in a row and in a column that are new.
func (c crate) seenAtBest(seen lines, from, more int) lines {
	return seen.and(c.worst(c.linesFrom(from).without(seen), more, more))
}

// fewest returns the first of the smallest samples that miss at most so many bad pencils. There is one: as many places as there are rows, or columns, can lie in all of them.
func (c crate) fewest(most int) []api.Spot {
	for size := 0; ; size++ {
		if sample, ok := c.firstSample(size, most); ok {
			return sample
		}
	}
}

// firstSample returns the first of the samples of so many places that miss at most so many bad pencils, if there is one. If no smaller sample does, what is seen at best can be seen, so that a choice fails at once or not at all.
func (c crate) firstSample(size, most int) ([]api.Spot, bool) {
	sample := make([]api.Spot, size)
	var choose func(at, from int, seen lines) bool
	choose = func(at, from int, seen lines) bool {
		if c.missed(c.seenAtBest(seen, from, size-at)) > most {
			return false
		}
		if at == size {
			return true
		}
		for n := from; n < c.places(); n++ {
			sample[at] = c.place(n)
			if choose(at+1, n+1, seen.with(sample[at])) {
				return true
			}
		}
		return false
	}
	if !choose(0, 0, lines{}) {
		return nil, false
	}
	return sample, true
}
