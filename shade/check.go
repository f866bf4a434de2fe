package shade

import (
	"pencilworks/api"
	"pencilworks/bound"
)

// known returns how black each of the leads can be, or the first error of a curve, of leads, and of whether all other arguments are valid.
func known(c []api.Tint, l []api.Leads, othersAreValid bool) ([]api.Span, api.Errno) {
	switch {
	case !validCurve(c):
		return nil, api.ErrArg
	case len(l) > api.MaxLeads:
		return nil, api.ErrLong
	case !validLeads(l) || !othersAreValid:
		return nil, api.ErrRange
	}
	return blacks(c, l)
}

func validCurve(c []api.Tint) bool {
	if len(c) < 2 || len(c) > api.MaxTints || c[0].Ratio != 0 || c[len(c)-1].Ratio != whole {
		return false
	}
	for i, t := range c {
		if t.Black < 0 || t.Black > api.MaxBlack {
			return false
		}
		if i > 0 && (t.Ratio <= c[i-1].Ratio || t.Black < c[i-1].Black) {
			return false
		}
	}
	return true
}

func validLeads(l []api.Leads) bool {
	for _, x := range l {
		if !bound.Within(x.Graphite, 1, api.MaxGrams) || !bound.Within(x.Clay, 0, api.MaxGrams) || x.Tol < 0 || x.Tol > api.MaxTol {
			return false
		}
		if !validStrokes(x.Strokes) || !validTests(x.Strength, x.Wear) || x.Many < 0 || x.Many > api.MaxMany {
			return false
		}
	}
	return true
}

func validStrokes(l []api.Stroke) bool {
	if len(l) > api.MaxStrokes {
		return false
	}
	for _, s := range l {
		if !bound.Within(s.Read, 0, api.MaxRead) || !bound.Within(s.Paper, 1, api.MaxPaper) {
			return false
		}
	}
	return true
}

func validTests(strength, wear api.Span) bool {
	return bound.Within(strength, 0, api.MaxTest) && bound.Within(wear, 0, api.MaxTest)
}

func validShades(l []api.Shade) bool {
	for _, s := range l {
		if !bound.Within(s.Black, 0, api.MaxBlack) || !validTests(s.Strength, s.Wear) {
			return false
		}
	}
	return true
}

// validSale tells whether leads were each sold as something, with a gap.
func validSale(leads int, as []int, gap int) bool {
	if len(as) != leads || gap < 0 || gap > api.MaxBlack {
		return false
	}
	for _, n := range as {
		if n < 0 || n >= api.MaxTones {
			return false
		}
	}
	return true
}

func validScale(s api.Scale) bool {
	return bound.Within(api.Span{Lo: s.Least, Hi: s.Most}, 1, api.MaxBlack) && 1 <= s.Gap && s.Gap <= s.Least && 1 <= s.Shades && s.Shades <= api.MaxTones
}
