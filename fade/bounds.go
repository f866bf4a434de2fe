package fade

import "pencilworks/api"

// apart is more than any two points of a truth can differ by.
const apart = api.MaxFast + api.MaxMonths*api.MaxLight

// bounds is by how much each point can be above each other one at most, in all truths that fit what was entered: the first index is that of the higher one. Each bound is reached: none of them can be made narrower by way of a third point.
type bounds [points][points]int

// unknown returns the bounds of points of which nothing is known.
func unknown() *bounds {
	b := &bounds{}
	for high := range b {
		for low := range b[high] {
			if high != low {
				b[high][low] = apart
			}
		}
	}
	return b
}

// enter enters what is known. It panics at what cannot be beside what was entered before.
func (b *bounds) enter(l ...entry) {
	for _, x := range l {
		if b[x.low][x.high]+x.most < 0 {
			panic("no truth fits this entry")
		}
		b.narrow(x)
	}
}

// narrow makes all bounds as narrow as they are with an entry that can be. The bounds that it reads do not change meanwhile, as an entry that can be leaves no way round it that is below 0.
func (b *bounds) narrow(x entry) {
	for high := range b {
		over := b[high][x.high] + x.most
		for low := range b[high] {
			b[high][low] = min(b[high][low], over+b[x.low][low])
		}
	}
}

// canEnter enters what is known, and tells whether it can be. If it cannot, the bounds are of no more use.
func (b *bounds) canEnter(l ...entry) (can bool) {
	defer func() { can = recover() == nil }()
	b.enter(l...)
	return true
}

// span returns the span from the least to the greatest number by which a point is above another one; it is below 0 where the other one is higher.
func (b *bounds) span(high, low point) api.Span {
	return api.Span{Lo: -b[low][high], Hi: b[high][low]}
}

// spans returns the spans of several points, each as it is found.
func spans[P any](l []P, find func(P) api.Span) (all []api.Span) {
	for _, p := range l {
		all = append(all, find(p))
	}
	return all
}

// grade returns the span of the grades of a sample among references. These take more and more light: so those that take no more than the sample are the first ones, and in one truth they are as few as they surely are, in one as many as they can be.
func (b *bounds) grade(sample point, among []point) (g api.Span) {
	over := func(ref point) api.Span { return b.span(ref, sample) }
	for _, s := range spans(among, over) {
		if s.Hi <= 0 {
			g.Lo++
		}
		if s.Lo <= 0 {
			g.Hi++
		}
	}
	return g
}
