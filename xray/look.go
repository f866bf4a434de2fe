package xray

import (
	"iter"

	"pencilworks/api"
)

// look is what was seen somewhere.
type look interface {
	// fits tells whether a truth is one in which that can be seen.
	fits(t lines) bool
}

// goodLook is a place whose pencils are good.
type goodLook api.Spot

func (l goodLook) fits(t lines) bool { return !t.have(api.Spot(l)) }

// badLook is a place whose pencils are bad.
type badLook api.Spot

func (l badLook) fits(t lines) bool { return t.have(api.Spot(l)) }

// blindLook is a place of whose pencils nothing was seen.
type blindLook struct{}

func (blindLook) fits(lines) bool { return true }

// looks returns what was seen, look by look.
func looks(l []api.Look) []look {
	var all []look
	for _, x := range l {
		s := api.Spot{Row: x.Row, Col: x.Col}
		switch x.Seen {
		case api.SeenGood:
			all = append(all, goodLook(s))
		case api.SeenBad:
			all = append(all, badLook(s))
		default:
			all = append(all, blindLook{})
		}
	}
	return all
}

// fitting returns an iterator over the truths of a crate that fit what was seen.
func (c crate) fitting(seen []look) iter.Seq[lines] {
	return func(yield func(lines) bool) {
	truths:
		for t := range c.truths {
			for _, l := range seen {
				if !l.fits(t) {
					continue truths
				}
			}
			if !yield(t) {
				return
			}
		}
	}
}
