package slat

import (
	"cmp"

	"pencilworks/api"
)

// setting is by how much the shaper is set off, to the side and in height.
type setting struct{ side, height int }

// amounts returns both amounts of a setting together.
func (s setting) amounts() int {
	return max(s.side, -s.side) + max(s.height, -s.height)
}

// isBefore tells whether a setting is to be preferred to another one that does as well.
func (s setting) isBefore(t setting) bool {
	return cmp.Or(cmp.Compare(s.amounts(), t.amounts()), cmp.Compare(s.side, t.side), cmp.Compare(s.height, t.height)) < 0
}

// further returns the settings that are a step further from the middle. Each setting but the middle is a step further than just one.
func (s setting) further() []setting {
	var l []setting
	if s.height == 0 {
		for _, side := range outward(s.side) {
			l = append(l, setting{side, 0})
		}
	}
	for _, height := range outward(s.height) {
		l = append(l, setting{s.side, height})
	}
	return l
}

// outward returns the numbers that are next to a number, and further from 0.
func outward(n int) []int {
	var l []int
	if -api.MaxSet < n && n <= 0 {
		l = append(l, n-1)
	}
	if 0 <= n && n < api.MaxSet {
		l = append(l, n+1)
	}
	return l
}

// after returns how far off a lead can lie with a setting.
func (l lead) after(s setting) lead {
	return lead{sum(l.side, exactly(-2*s.side)), sum(l.height, exactly(-2*s.height))}
}

// bestSetting returns the first setting with which as many leads as can be are surely within a limit, and how many these are.
func bestSetting(leads []lead, limit int) (best setting, most int) {
	open := heap[setting]{isBefore: setting.isBefore}
	open.put(setting{})
	most = -1
settings:
	for s, ok := open.take(); ok && most < len(leads); s, ok = open.take() {
		for _, t := range s.further() {
			open.put(t)
		}
		many := len(leads)
		for _, l := range leads {
			if l.after(s).isWithin(limit) {
				continue
			}
			many--
			if many <= most {
				continue settings
			}
		}
		best, most = s, many
	}
	return best, most
}
