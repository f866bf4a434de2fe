package fire

import "pencilworks/api"

// whole is all of something, in thousandths. The heat of leads is counted in thousandths too, so that it is exact.
const whole = 1000

// side is what a place makes of a heat of the kiln, at one end of what the place can be.
type side interface {
	// leads returns the heat of leads, in thousandths.
	leads(heat int) int
}

// least is a place with its least gain and off.
type least api.Place

func (p least) leads(heat int) int { return p.Gain.Lo*heat + whole*p.Off.Lo }

// greatest is a place with its greatest gain and off.
type greatest api.Place

func (p greatest) leads(heat int) int { return p.Gain.Hi*heat + whole*p.Off.Hi }

// site is what is known of the heat of leads at a place.
type site struct {
	low, high side
	err       int
}

func siteOf(k api.Kiln, place int) site {
	p := k.Places[place]
	return site{least(p), greatest(p), k.Err}
}

// atLeast returns the least heat of leads, in thousandths. No heat is below 0, so that the least gain makes the least of each.
func (s site) atLeast(set int) int { return s.low.leads(s.coolest(set)) }

// atMost returns the greatest heat of leads, in thousandths.
func (s site) atMost(set int) int { return s.high.leads(s.hottest(set)) }

// rise returns by how much hotter leads can be with what is set in one hour than with what is set in another one, in thousandths; it is below 0 if they surely are less hot.
// A truth has the same gain and off in both hours: the off makes no difference, and the greatest gain makes the greatest one.
func (s site) rise(from, to int) int {
	return s.high.leads(s.hottest(to)) - s.high.leads(s.coolest(from))
}

// coolest and hottest return the ends of the heat of the kiln.

func (s site) coolest(set int) int { return max(set-s.err, 0) }
func (s site) hottest(set int) int { return set + s.err }
