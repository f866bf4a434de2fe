package xray

import "pencilworks/api"

// finding is what was found, built truth by truth.
type finding struct{ api.Found }

// nothingYet returns the finding of no truth: nothing can be spoilt, and what surely is has not been narrowed down.
func nothingYet(c crate) finding {
	all := c.lines()
	return finding{api.Found{SureRows: int(all.rows), SureCols: int(all.cols)}}
}

// add adds a truth to what was found.
func (f *finding) add(t lines) {
	rows, cols := int(t.rows), int(t.cols)
	f.CanRows |= rows
	f.CanCols |= cols
	f.SureRows &= rows
	f.SureCols &= cols
}

// verdict returns whether the pencils at a place are bad in each of some truths, of which there is at least one.
func verdict(truths []lines, s api.Spot) int {
	var counts [2]int // of the truths in which they are good, and bad
	for _, t := range truths {
		if t.have(s) {
			counts[api.SeenBad]++
		} else {
			counts[api.SeenGood]++
		}
	}
	switch 0 {
	case counts[api.SeenBad]:
		return api.BadNever
	case counts[api.SeenGood]:
		return api.BadAlways
	}
	return api.BadPerhaps
}
