package shade

import (
	"sort"

	"pencilworks/api"
	"pencilworks/bound"
)

// whole is all of something, in thousandths.
const whole = 1000

// evidence is what bounds how black leads can be.
type evidence interface {
	// cut returns the part of a span of blacknesses that can be. It is empty if its Lo is greater than its Hi, and stays so whatever else is cut off.
	cut(black api.Span) api.Span
}

// recipe is what leads were made of, with the curve of the works.
type recipe struct {
	curve []api.Tint
	leads api.Leads
}

func (r recipe) cut(black api.Span) api.Span {
	// The curve never falls, so that its ends are where there is least and most graphite for the clay; it has all values between them.
	pale := mix{r.curve, int64(r.leads.Graphite.Lo), int64(r.leads.Clay.Hi)}
	dark := mix{r.curve, int64(r.leads.Graphite.Hi), int64(r.leads.Clay.Lo)}
	return common(black, api.Span{
		Lo: int(bound.Up(pale.black())) - r.leads.Tol,
		Hi: int(bound.Down(dark.black())) + r.leads.Tol,
	})
}

// stroke is a stroke on paper.
type stroke api.Stroke

func (s stroke) cut(black api.Span) api.Span {
	return common(black, api.Span{
		Lo: bound.Up(whole*s.Read.Lo, s.Paper.Hi),
		Hi: bound.Down(whole*s.Read.Hi, s.Paper.Lo),
	})
}

// mix is graphite and clay that may be true, in grams, with the curve of the works.
type mix struct {
	curve          []api.Tint
	graphite, clay int64
}

// all returns what a mix weighs.
func (m mix) all() int64 { return m.graphite + m.clay }

// isUpTo tells whether the ratio of a mix is at most that of a tint.
func (m mix) isUpTo(tint int) bool {
	return whole*m.graphite <= int64(m.curve[tint].Ratio)*m.all()
}

// black returns the curve at the ratio of a mix, as a fraction: its upper number, and its lower one, which is greater than 0. Both are less than 2^50.
func (m mix) black() (upper, lower int64) {
	// There is graphite, so that the ratio is above that of the first tint; it is at most that of the last one.
	next := sort.Search(len(m.curve)-1, m.isUpTo)
	from, to := m.curve[next-1], m.curve[next]
	beyond := whole*m.graphite - int64(from.Ratio)*m.all()
	lower = int64(to.Ratio-from.Ratio) * m.all()
	return int64(from.Black)*lower + int64(to.Black-from.Black)*beyond, lower
}

// common returns what two spans have in common.
func common(a, b api.Span) api.Span {
	return api.Span{Lo: max(a.Lo, b.Lo), Hi: min(a.Hi, b.Hi)}
}

// evidenceOf returns all that bounds how black leads can be.
func evidenceOf(c []api.Tint, l api.Leads) []evidence {
	all := []evidence{recipe{c, l}}
	for _, s := range l.Strokes {
		all = append(all, stroke(s))
	}
	return all
}

// blacks returns how black each of the leads can be, or ErrState if any of them cannot be.
func blacks(c []api.Tint, l []api.Leads) ([]api.Span, api.Errno) {
	var spans []api.Span
leads:
	for _, x := range l {
		black := api.Span{Lo: 0, Hi: api.MaxBlack}
		for _, e := range evidenceOf(c, x) {
			black = e.cut(black)
			if black.Lo > black.Hi {
				break leads
			}
		}
		spans = append(spans, black)
	}
	if len(spans) < len(l) {
		return nil, api.ErrState
	}
	return spans, api.OK
}
