package shade

import (
	"math"
	"slices"
	"testing"

	"pencilworks/api"
)

func span(lo, hi int) api.Span { return api.Span{Lo: lo, Hi: hi} }

func tint(ratio, black int) api.Tint { return api.Tint{Ratio: ratio, Black: black} }

func onPaper(read, paper api.Span) api.Stroke { return api.Stroke{Read: read, Paper: paper} }

// bent returns the first curve of the chapter's examples.
func bent() []api.Tint { return []api.Tint{tint(0, 20), tint(500, 60), tint(1000, 180)} }

// even returns the second one.
func even() []api.Tint { return []api.Tint{tint(0, 0), tint(1000, 200)} }

// example returns the leads of the first example.
func example() api.Leads {
	return api.Leads{
		Graphite: span(600, 600), Clay: span(400, 400), Tol: 6,
		Strokes:  []api.Stroke{onPaper(span(40, 45), span(500, 500)), onPaper(span(70, 80), span(900, 1000))},
		Strength: span(150, 160), Wear: span(30, 35), Many: 10,
	}
}

// changed returns the leads of the first example with a change.
func changed(change func(l *api.Leads)) api.Leads {
	l := example()
	change(&l)
	return l
}

// kilogram returns leads without strokes, of 1000 grams together.
func kilogram(graphite, tol, many int) api.Leads {
	return api.Leads{Graphite: span(graphite, graphite), Clay: span(1000-graphite, 1000-graphite), Tol: tol, Many: many}
}

// read returns leads of which nothing is known but strokes.
func read(strokes ...api.Stroke) api.Leads {
	return api.Leads{Graphite: span(1, 1), Tol: api.MaxTol, Strokes: strokes}
}

// impossible returns leads that have no truth: a blackness of 66 2/3.
func impossible() api.Leads { return api.Leads{Graphite: span(1, 1), Clay: span(2, 2)} }

// four returns the leads of the second example, which are 80..88, 30..40, 60..70 and 85..95 black.
func four() []api.Leads {
	return []api.Leads{kilogram(420, 4, 100), kilogram(175, 5, 50), kilogram(325, 5, 70), kilogram(450, 5, 60)}
}

// shades returns the shades of the first example.
func shades() []api.Shade {
	return []api.Shade{
		{Black: span(20, 79), Strength: span(100, 200), Wear: span(0, 50)},
		{Black: span(70, 90), Strength: span(100, 200), Wear: span(0, 50)},
		{Black: span(80, 120), Strength: span(155, 200), Wear: span(0, 50)},
	}
}

func scale(shades, least, most, gap int) api.Scale {
	return api.Scale{Shades: shades, Least: least, Most: most, Gap: gap}
}

// P2.1: the chapter's examples, the curve and its tints, the rounding, and the ends of the scale.
func TestBlack(t *testing.T) {
	g := func(graphite, clay api.Span, tol int) api.Leads {
		return api.Leads{Graphite: graphite, Clay: clay, Tol: tol}
	}
	most := api.MaxGrams
	steps := []api.Tint{tint(0, 1), tint(1, 2), tint(2, 3), tint(3, 50), tint(997, 50), tint(998, 70), tint(999, 199), tint(1000, 200)}
	for _, c := range []struct {
		name  string
		curve []api.Tint
		l     api.Leads
		want  api.Span
	}{
		{"example", bent(), example(), span(80, 88)},
		{"example without strokes", bent(), changed(func(l *api.Leads) { l.Strokes = nil }), span(78, 90)},
		{"example with no list of strokes, but an empty one", bent(), changed(func(l *api.Leads) { l.Strokes = []api.Stroke{} }), span(78, 90)},
		{"example with the first stroke", bent(), changed(func(l *api.Leads) { l.Strokes = l.Strokes[:1] }), span(80, 90)},
		{"example with less certain graphite", bent(), changed(func(l *api.Leads) { l.Strokes, l.Graphite = nil, span(550, 650) }), span(73, 94)},
		{"at a tint", bent(), g(span(9, 9), span(9, 9), 0), span(60, 60)},
		{"just below a tint", bent(), g(span(499, 499), span(501, 501), 1), span(59, 60)},
		{"just above a tint", bent(), g(span(501, 501), span(499, 499), 1), span(60, 61)},
		{"across a tint", bent(), g(span(250, 750), span(250, 750), 0), span(40, 120)},
		{"no clay", bent(), g(span(1, 1), span(0, 0), 0), span(180, 180)},
		{"perhaps no clay", bent(), g(span(1, 1), span(0, 1), 0), span(60, 180)},
		{"hardly any graphite", even(), g(span(1, 1), span(most, most), 1), span(0, 1)},
		{"hardly any clay", even(), g(span(most, most), span(1, 1), 1), span(199, 200)},
		{"as much as can be", even(), g(span(most, most), span(most, most), 0), span(100, 100)},
		{"nothing is known", even(), g(span(1, most), span(0, most), 0), span(1, 200)},
		{"nothing is known, and the fire differs", even(), g(span(1, most), span(0, most), 1), span(0, 200)},
		{"a tolerance beyond both ends", even(), g(span(1, 1), span(1, 1), 200), span(0, 200)},
		{"a tolerance beyond the pale end", even(), g(span(1, 1), span(9, 9), 25), span(0, 45)},
		{"a tolerance beyond the black end", even(), g(span(9, 9), span(1, 1), 25), span(155, 200)},
		{"a fraction and a tolerance", even(), g(span(1, 1), span(2, 2), 1), span(66, 67)},
		{"the tolerance is not rounded first", even(), g(span(1, 1), span(399, 399), 3), span(0, 3)},
		{"a curve that stays level", []api.Tint{tint(0, 7), tint(1, 7), tint(1000, 7)}, g(span(1, most), span(0, most), 0), span(7, 7)},
		{"a curve that is level between two tints", steps, g(span(4, 996), span(4, 996), 0), span(50, 50)},
		{"the first of many tints", steps, g(span(1, 1), span(1999, 1999), 1), span(1, 2)},
		{"the second of many tints", steps, g(span(1, 1), span(999, 999), 0), span(2, 2)},
		{"the last of many tints", steps, g(span(1999, 1999), span(1, 1), 1), span(199, 200)},
		{"the last but one of many tints", steps, g(span(999, 999), span(1, 1), 0), span(199, 199)},
		{"a curve of white alone", []api.Tint{tint(0, 0), tint(1000, 0)}, g(span(5, 5), span(5, 5), 0), span(0, 0)},
		{"a curve of black alone", []api.Tint{tint(0, 200), tint(1000, 200)}, g(span(5, 5), span(5, 5), 0), span(200, 200)},
		{"a stroke that is read exactly", even(), read(onPaper(span(50, 50), span(500, 500))), span(100, 100)},
		{"a stroke between two blacknesses on both sides", even(), read(onPaper(span(10, 20), span(3000, 3000))), span(4, 6)},
		{"a paper that is not known", even(), read(onPaper(span(50, 60), span(500, 1000))), span(50, 120)},
		{"a paper of a fraction", even(), read(onPaper(span(100, 100), span(1400, 1600)), onPaper(span(0, 67), span(1000, 1000))), span(63, 67)},
		{"a paper that shows hardly anything", even(), read(onPaper(span(0, 0), span(1, 1))), span(0, 0)},
		{"a paper that shows anything", even(), read(onPaper(span(1, 1000), span(1, 4000))), span(1, 200)},
		{"nothing is read", even(), read(onPaper(span(0, 0), span(1, 4000))), span(0, 0)},
		{"as much is read as can be", even(), read(onPaper(span(800, 1000), span(4000, 4000))), span(200, 200)},
		{"two strokes, one at each end", even(), read(onPaper(span(0, 90), span(1000, 1000)), onPaper(span(80, 1000), span(1000, 1000))), span(80, 90)},
		{"six strokes", even(), read(slices.Repeat([]api.Stroke{onPaper(span(70, 80), span(1000, 1000))}, 6)...), span(70, 80)},
	} {
		if got, e := Black(c.curve, c.l); got != c.want || e != api.OK {
			t.Errorf("%s: Black = %v, error %d, not %v", c.name, got, e, c.want)
		}
	}
}

// withoutTruth returns leads that have no truth, on the even curve.
func withoutTruth() []api.Leads {
	one := span(1, 1)
	return []api.Leads{
		impossible(),
		read(onPaper(span(50, 50), span(999, 999))),
		read(onPaper(span(201, 300), span(1000, 1000))),
		read(onPaper(span(1, 1), one)),
		read(onPaper(span(50, 60), span(1000, 1000)), onPaper(span(61, 70), span(1000, 1000))),
		read(onPaper(span(61, 70), span(1000, 1000)), onPaper(span(50, 60), span(1000, 1000)), onPaper(span(0, 1000), span(1, 4000))),
		{Graphite: one, Clay: one, Tol: 9, Strokes: []api.Stroke{onPaper(span(0, 90), span(1000, 1000))}},
		{Graphite: one, Clay: one, Tol: 9, Strokes: []api.Stroke{onPaper(span(110, 120), span(1000, 1000))}},
		{Graphite: one, Clay: span(1, 2), Strokes: []api.Stroke{onPaper(span(0, 66), span(1000, 1000))}},
	}
}

// P2.1 to P2.4: without a truth there is nothing but ErrState, before ErrNone.
func TestNoTruth(t *testing.T) {
	for _, l := range withoutTruth() {
		if s, e := Black(even(), l); e != api.ErrState || s != (api.Span{}) {
			t.Errorf("Black of %v = %v, error %d", l, s, e)
		}
		for _, s := range [][]api.Shade{nil, shades()} {
			if got, e := Has(even(), s, l); e != api.ErrState || len(got) != 0 {
				t.Errorf("Has of %v = %v, error %d", l, got, e)
			}
		}
		for _, list := range [][]api.Leads{{l}, append(four(), l), append([]api.Leads{l}, four()...)} {
			for _, as := range [][]int{make([]int, len(list)), []int{0, 1, 0, 1, 0}[:len(list)]} {
				if i, k, e := Ordered(even(), list, as, 200); e != api.ErrState || i != 0 || k != 0 {
					t.Errorf("Ordered of %v = %d, %d, error %d", list, i, k, e)
				}
			}
			for _, s := range []api.Scale{scale(1, 1, 200, 1), scale(8, 26, 200, 1)} {
				if cuts, many, e := Cut(even(), list, s); e != api.ErrState || len(cuts) != 0 || many != 0 {
					t.Errorf("Cut of %v = %v, %d, error %d", list, cuts, many, e)
				}
			}
		}
	}
	if s, e := Black(bent(), changed(func(l *api.Leads) { l.Strokes[0].Read = span(10, 20) })); e != api.ErrState || s != (api.Span{}) {
		t.Errorf("Black of the example = %v, error %d", s, e)
	}
}

// P2.2: the chapter's example; bounds that are just met, and those that just are not.
func TestHas(t *testing.T) {
	exact := api.Shade{Black: span(80, 88), Strength: span(150, 160), Wear: span(30, 35)}
	all := api.Shade{Black: span(0, 200), Strength: span(0, 10_000), Wear: span(0, 10_000)}
	without := func(change func(s *api.Shade)) api.Shade {
		s := exact
		change(&s)
		return s
	}
	short := []api.Shade{
		without(func(s *api.Shade) { s.Black.Lo++ }), without(func(s *api.Shade) { s.Black.Hi-- }),
		without(func(s *api.Shade) { s.Strength.Lo++ }), without(func(s *api.Shade) { s.Strength.Hi-- }),
		without(func(s *api.Shade) { s.Wear.Lo++ }), without(func(s *api.Shade) { s.Wear.Hi-- }),
		without(func(s *api.Shade) { s.Black = span(0, 79) }), without(func(s *api.Shade) { s.Wear = span(36, 40) }),
	}
	for _, c := range []struct {
		name  string
		curve []api.Tint
		s     []api.Shade
		l     api.Leads
		want  []int
	}{
		{"example", bent(), shades(), example(), []int{1}},
		{"example, and stronger", bent(), shades(), changed(func(l *api.Leads) { l.Strength.Lo = 155 }), []int{1, 2}},
		{"example, without strokes", bent(), shades(), changed(func(l *api.Leads) { l.Strokes = nil }), []int{1}},
		{"example, paler", bent(), shades(), changed(func(l *api.Leads) { l.Strokes, l.Graphite, l.Clay = nil, span(1, 1), span(1, 1) }), []int{0}},
		{"bounds that are just met", bent(), []api.Shade{exact, all, exact}, example(), []int{0, 1, 2}},
		{"bounds that just are not", bent(), short, example(), nil},
		{"bounds that just are not, and one that is", bent(), append(short[:7:7], all), example(), []int{7}},
		{"no shades", bent(), nil, example(), nil},
		{"no shades, but a list", bent(), []api.Shade{}, example(), nil},
		{"a single truth", even(), []api.Shade{{Black: span(1, 200), Strength: all.Strength, Wear: all.Wear}, {}}, read(onPaper(span(0, 0), span(1, 1))), []int{1}},
	} {
		if got, e := Has(c.curve, c.s, c.l); !slices.Equal(got, c.want) || e != api.OK {
			t.Errorf("%s: Has = %v, error %d, not %v", c.name, got, e, c.want)
		}
	}
}

// P2.3: the chapter's examples; a gap that is just there, and the first of several pairs.
func TestOrdered(t *testing.T) {
	ten := slices.Repeat([]api.Leads{kilogram(500, 0, 0)}, 10)
	for _, c := range []struct {
		name  string
		l     []api.Leads
		as    []int
		gap   int
		i, k  int
		found bool
	}{
		{"example", four(), []int{1, 0, 0, 1}, 5, 0, 0, false},
		{"example, sold otherwise", four(), []int{0, 0, 0, 1}, 5, 0, 3, true},
		{"none", nil, nil, 200, 0, 0, false},
		{"none, but lists", []api.Leads{}, []int{}, 0, 0, 0, false},
		{"one", four()[:1], []int{7}, 200, 0, 0, false},
		{"all sold as the same", four(), []int{7, 7, 7, 7}, 200, 0, 0, false},
		{"a gap that is just there", four(), []int{1, 0, 0, 1}, 10, 0, 0, false},
		{"a gap that just is not", four(), []int{1, 0, 0, 1}, 11, 2, 0, true},
		{"the greatest gap", four(), []int{1, 1, 0, 1}, 200, 2, 0, true},
		{"two that touch", []api.Leads{kilogram(300, 5, 0), kilogram(350, 5, 0)}, []int{2, 6}, 0, 0, 0, false},
		{"two that overlap", []api.Leads{kilogram(300, 5, 0), kilogram(345, 5, 0)}, []int{2, 6}, 0, 0, 1, true},
		{"the other way round", []api.Leads{kilogram(345, 5, 0), kilogram(300, 5, 0)}, []int{6, 2}, 0, 1, 0, true},
		{"just the same, without a gap", ten, []int{0, 1, 2, 3, 4, 5, 6, 7, 7, 7}, 0, 0, 0, false},
		{"just the same, with a gap", ten, []int{7, 7, 7, 6, 7, 7, 5, 7, 7, 7}, 1, 3, 0, true},
		{"the least i comes before the least k", ten, []int{7, 6, 7, 5, 6, 7, 7, 7, 7, 7}, 1, 1, 0, true},
		{"the least k", ten, []int{3, 3, 3, 1, 2, 4, 5, 3, 3, 3}, 1, 0, 5, true},
		{"the last two", ten, []int{3, 3, 3, 3, 3, 3, 3, 3, 3, 2}, 200, 9, 0, true},
		{"not neighbours in the list of shades", four(), []int{7, 0, 3, 7}, 10, 0, 0, false},
	} {
		e := api.ErrNone
		if c.found {
			e = api.OK
		}
		if i, k, f := Ordered(even(), c.l, c.as, c.gap); i != c.i || k != c.k || f != e {
			t.Errorf("%s: Ordered = %d, %d, error %d, not %d, %d, error %d", c.name, i, k, f, c.i, c.k, e)
		}
	}
}

// P2.4: the chapter's examples; cuts that come first, room that is just enough, and bounds of a shade that are just met.
func TestCut(t *testing.T) {
	ten := slices.Repeat([]api.Leads{kilogram(500, 0, api.MaxMany)}, 10)
	for _, c := range []struct {
		name string
		l    []api.Leads
		s    api.Scale
		cuts []int
		many int
	}{
		{"example", four(), scale(2, 20, 60, 5), []int{0, 45, 100}, 280},
		{"example, narrow", four(), scale(4, 20, 20, 5), []int{20, 40, 60, 80, 100}, 230},
		{"no leads", nil, scale(3, 5, 9, 2), []int{0, 5, 10, 15}, 0},
		{"no leads, but a list", []api.Leads{}, scale(1, 200, 200, 200), []int{0, 200}, 0},
		{"leads without pencils", []api.Leads{kilogram(500, 0, 0)}, scale(2, 3, 9, 1), []int{0, 3, 6}, 0},
		{"nothing fits", four(), scale(8, 1, 4, 1), []int{0, 1, 2, 3, 4, 5, 6, 7, 8}, 0},
		{"just wide enough", four()[:1], scale(1, 13, 13, 5), []int{80, 93}, 100},
		{"just too narrow", four()[:1], scale(1, 12, 12, 5), []int{0, 12}, 0},
		{"at the lower cut, and with the gap at the upper one", ten, scale(1, 7, 7, 7), []int{100, 107}, 10 << 20},
		{"all the scale", ten, scale(8, 25, 25, 25), []int{0, 25, 50, 75, 100, 125, 150, 175, 200}, 10 << 20},
		{"no room for the gap at the end", []api.Leads{kilogram(1000, 0, 5)}, scale(1, 1, 200, 1), []int{0, 1}, 0},
		{"just room for the gap at the end", []api.Leads{kilogram(995, 0, 5)}, scale(1, 1, 20, 1), []int{180, 200}, 5},
		{"white", []api.Leads{{Graphite: span(1, 1), Clay: span(1000, 1000), Tol: 1, Strokes: []api.Stroke{onPaper(span(0, 0), span(1000, 1000))}, Many: 5}}, scale(1, 1, 200, 1), []int{0, 1}, 5},
		{"either of two, and the first cuts", []api.Leads{kilogram(100, 0, 5), kilogram(900, 0, 5)}, scale(1, 3, 9, 3), []int{14, 23}, 5},
		{"either of two, and more pencils", []api.Leads{kilogram(100, 0, 5), kilogram(900, 0, 6)}, scale(1, 3, 9, 3), []int{174, 183}, 6},
		{"the first cuts make the later ones late", []api.Leads{kilogram(100, 0, 5)}, scale(2, 2, 20, 2), []int{0, 2, 22}, 5},
		{"the whole of a gap in a later shade", []api.Leads{kilogram(500, 0, 5)}, scale(2, 50, 100, 50), []int{0, 50, 150}, 5},
	} {
		if cuts, many, e := Cut(even(), c.l, c.s); !slices.Equal(cuts, c.cuts) || many != c.many || e != api.OK {
			t.Errorf("%s: Cut = %v, %d, error %d, not %v, %d", c.name, cuts, many, e, c.cuts, c.many)
		}
	}
	for _, s := range []api.Scale{scale(8, 26, 26, 1), scale(8, 26, 200, 26), scale(2, 101, 101, 1), scale(8, 200, 200, 1)} {
		if cuts, many, e := Cut(even(), four(), s); e != api.ErrNone || len(cuts) != 0 || many != 0 {
			t.Errorf("Cut by %v = %v, %d, error %d", s, cuts, many, e)
		}
	}
	for _, s := range []api.Scale{scale(8, 25, 25, 1), scale(2, 100, 200, 100), scale(1, 200, 200, 200), scale(8, 1, 200, 1)} {
		if cuts, _, e := Cut(even(), four(), s); e != api.OK || len(cuts) != s.Shades+1 {
			t.Errorf("Cut by %v = %v, error %d", s, cuts, e)
		}
	}
}

// wrongCurves returns curves that are not valid.
func wrongCurves() [][]api.Tint {
	return [][]api.Tint{
		nil, {}, {tint(0, 5)}, {tint(1000, 5)},
		{tint(1, 5), tint(1000, 5)}, {tint(-1, 5), tint(1000, 5)}, {tint(0, 5), tint(999, 5)}, {tint(0, 5), tint(1001, 5)},
		{tint(0, 5), tint(0, 5), tint(1000, 5)}, {tint(0, 5), tint(1000, 5), tint(1000, 5)}, {tint(0, 5), tint(600, 5), tint(500, 5), tint(1000, 5)}, {tint(0, 5), tint(1001, 5), tint(1000, 5)},
		{tint(0, 5), tint(1000, 4)}, {tint(0, 5), tint(1, 6), tint(2, 5), tint(1000, 7)},
		{tint(0, -1), tint(1000, 5)}, {tint(0, 5), tint(1000, 201)}, {tint(0, 5), tint(1, 201), tint(1000, 202)}, {tint(0, math.MinInt), tint(1000, math.MaxInt)},
		{tint(0, 0), tint(1, 0), tint(2, 0), tint(3, 0), tint(4, 0), tint(5, 0), tint(6, 0), tint(7, 0), tint(1000, 0)},
	}
}

// wrongSpans returns spans that are not within two bounds.
func wrongSpans(least, most int) []api.Span {
	return []api.Span{span(least-1, most), span(least, most+1), span(least+1, least), span(most+1, most+1), span(math.MinInt, math.MaxInt), span(math.MaxInt, math.MinInt)}
}

// wrongLeads returns leads that are not valid.
func wrongLeads() []api.Leads {
	l := []api.Leads{
		{},
		changed(func(l *api.Leads) { l.Strokes = slices.Repeat(l.Strokes, 4)[:7] }),
	}
	wrong := func(most int, set func(l *api.Leads, n int)) {
		for _, n := range []int{-1, most + 1, math.MinInt, math.MaxInt} {
			l = append(l, changed(func(l *api.Leads) { set(l, n) }))
		}
	}
	wrongSpan := func(least, most int, set func(l *api.Leads, s api.Span)) {
		for _, s := range wrongSpans(least, most) {
			l = append(l, changed(func(l *api.Leads) { set(l, s) }))
		}
	}
	wrong(api.MaxTol, func(l *api.Leads, n int) { l.Tol = n })
	wrong(api.MaxMany, func(l *api.Leads, n int) { l.Many = n })
	wrongSpan(1, api.MaxGrams, func(l *api.Leads, s api.Span) { l.Graphite = s })
	wrongSpan(0, api.MaxGrams, func(l *api.Leads, s api.Span) { l.Clay = s })
	wrongSpan(0, api.MaxRead, func(l *api.Leads, s api.Span) { l.Strokes[0].Read = s })
	wrongSpan(1, api.MaxPaper, func(l *api.Leads, s api.Span) { l.Strokes[1].Paper = s })
	wrongSpan(0, api.MaxTest, func(l *api.Leads, s api.Span) { l.Strength = s })
	wrongSpan(0, api.MaxTest, func(l *api.Leads, s api.Span) { l.Wear = s })
	return l
}

// wrongShades returns shades that are not valid.
func wrongShades() []api.Shade {
	var l []api.Shade
	for _, s := range wrongSpans(0, api.MaxBlack) {
		l = append(l, api.Shade{Black: s})
	}
	for _, s := range wrongSpans(0, api.MaxTest) {
		l = append(l, api.Shade{Strength: s}, api.Shade{Wear: s})
	}
	return l
}

// wrongScales returns scales that are not valid.
func wrongScales() []api.Scale {
	return []api.Scale{
		{}, scale(0, 5, 9, 1), scale(-1, 5, 9, 1), scale(9, 5, 9, 1), scale(math.MinInt, 5, 9, 1), scale(math.MaxInt, 5, 9, 1),
		scale(2, 0, 9, 0), scale(2, 0, 9, 1), scale(2, -1, 9, 1), scale(2, 10, 9, 1), scale(2, 5, 201, 1), scale(2, 201, 201, 1), scale(2, math.MinInt, math.MaxInt, 1), scale(2, math.MaxInt, math.MinInt, 1),
		scale(2, 5, 9, 0), scale(2, 5, 9, -1), scale(2, 5, 9, 6), scale(2, 5, 9, math.MaxInt), scale(2, 5, 9, math.MinInt),
	}
}

// wrongSales returns what four leads may not have been sold as, and gaps; one of the two is wrong.
func wrongSales() (as [][]int, gaps []int) {
	as = [][]int{nil, {}, {0, 0, 0}, {0, 0, 0, 0, 0}, {0, 0, 0, 8}, {-1, 0, 0, 0}, {0, math.MinInt, 0, 0}, {0, 0, math.MaxInt, 0}, {1, 0, 0, 1}, {1, 0, 0, 1}, {1, 0, 0, 1}, {1, 0, 0, 1}}
	return as, []int{5, 5, 5, 5, 5, 5, 5, 5, -1, 201, math.MinInt, math.MaxInt}
}

// expect checks that each function returns an error, and nothing else.
func expect(t *testing.T, want api.Errno, c []api.Tint, s []api.Shade, l []api.Leads, as []int, gap int, by api.Scale) {
	t.Helper()
	if len(l) == 1 && len(s) == 0 {
		if got, e := Black(c, l[0]); e != want || got != (api.Span{}) {
			t.Errorf("Black(%v, %v) = %v, error %d", c, l[0], got, e)
		}
	}
	if len(l) == 1 {
		if got, e := Has(c, s, l[0]); e != want || len(got) != 0 {
			t.Errorf("Has(%v, %v, %v) = %v, error %d", c, s, l[0], got, e)
		}
	}
	if len(s) > 0 {
		return
	}
	if i, k, e := Ordered(c, l, as, gap); e != want || i != 0 || k != 0 {
		t.Errorf("Ordered(%v, %v, %v, %d) = %d, %d, error %d", c, l, as, gap, i, k, e)
	}
	if cuts, many, e := Cut(c, l, by); e != want || len(cuts) != 0 || many != 0 {
		t.Errorf("Cut(%v, %v, %v) = %v, %d, error %d", c, l, by, cuts, many, e)
	}
}

// R1: ErrArg for the curve comes before all other errors.
func TestWrongCurves(t *testing.T) {
	long := slices.Repeat([]api.Leads{{}}, 11)
	for _, c := range wrongCurves() {
		expect(t, api.ErrArg, c, nil, []api.Leads{example()}, []int{0}, 0, scale(1, 1, 1, 1))
		expect(t, api.ErrArg, c, nil, []api.Leads{{}}, nil, -1, api.Scale{})
		expect(t, api.ErrArg, c, make([]api.Shade, 9), []api.Leads{{}}, nil, -1, api.Scale{})
		expect(t, api.ErrArg, c, nil, long, nil, -1, api.Scale{})
		expect(t, api.ErrArg, c, nil, nil, nil, 0, scale(8, 200, 200, 1))
	}
}

// R1: ErrLong comes before what the leads, the shades and the rest are.
func TestTooMany(t *testing.T) {
	for _, n := range []int{11, 12, 300} {
		for _, l := range []api.Leads{{}, example(), impossible()} {
			many := slices.Repeat([]api.Leads{l}, n)
			expect(t, api.ErrLong, bent(), nil, many, make([]int, n), 0, scale(1, 1, 1, 1))
			expect(t, api.ErrLong, bent(), nil, many, nil, -1, api.Scale{})
			expect(t, api.ErrLong, bent(), make([]api.Shade, n-2), []api.Leads{l}, nil, 0, api.Scale{})
			expect(t, api.ErrLong, bent(), slices.Repeat([]api.Shade{{Black: span(2, 1)}}, n-2), []api.Leads{l}, nil, 0, api.Scale{})
		}
	}
	if _, e := Has(bent(), make([]api.Shade, 8), example()); e != api.OK {
		t.Errorf("Has with eight shades: error %d", e)
	}
	ten := slices.Repeat([]api.Leads{example()}, 10)
	if _, _, e := Ordered(bent(), ten, make([]int, 10), 0); e != api.ErrNone {
		t.Errorf("Ordered of ten leads: error %d", e)
	}
	if _, _, e := Cut(bent(), ten, scale(1, 1, 1, 1)); e != api.OK {
		t.Errorf("Cut of ten leads: error %d", e)
	}
}

// R1: ErrRange, for each part of each argument, before ErrState and ErrNone.
func TestRanges(t *testing.T) {
	for _, l := range wrongLeads() {
		expect(t, api.ErrRange, bent(), nil, []api.Leads{l}, []int{0}, 0, scale(1, 1, 1, 1))
		expect(t, api.ErrRange, bent(), shades(), []api.Leads{l}, nil, 0, api.Scale{})
		expect(t, api.ErrRange, even(), nil, []api.Leads{impossible(), l}, []int{0, 0}, 0, scale(8, 200, 200, 1))
	}
	for _, s := range wrongShades() {
		expect(t, api.ErrRange, bent(), []api.Shade{s}, []api.Leads{example()}, nil, 0, api.Scale{})
		expect(t, api.ErrRange, even(), append(shades(), s), []api.Leads{impossible()}, nil, 0, api.Scale{})
	}
	as, gaps := wrongSales()
	for n := range as {
		for _, l := range [][]api.Leads{four(), append(four()[:3], impossible())} {
			if i, k, e := Ordered(even(), l, as[n], gaps[n]); e != api.ErrRange || i != 0 || k != 0 {
				t.Errorf("Ordered as %v with the gap %d = %d, %d, error %d", as[n], gaps[n], i, k, e)
			}
		}
	}
	for _, s := range wrongScales() {
		for _, l := range [][]api.Leads{nil, four(), append(four(), impossible())} {
			if cuts, many, e := Cut(even(), l, s); e != api.ErrRange || len(cuts) != 0 || many != 0 {
				t.Errorf("Cut by %v = %v, %d, error %d", s, cuts, many, e)
			}
		}
	}
}

// R7: each number may be at its limit.
func TestLimits(t *testing.T) {
	most := api.Leads{Graphite: span(1, api.MaxGrams), Clay: span(0, api.MaxGrams), Tol: api.MaxTol, Strength: span(0, api.MaxTest), Wear: span(0, api.MaxTest), Many: api.MaxMany}
	most.Strokes = slices.Repeat([]api.Stroke{onPaper(span(0, api.MaxRead), span(1, api.MaxPaper))}, api.MaxStrokes)
	curve := []api.Tint{tint(0, 0), tint(1, 0), tint(2, 0), tint(3, 0), tint(4, 0), tint(5, 0), tint(6, 200), tint(1000, 200)}
	if s, e := Black(curve, most); s != span(0, 200) || e != api.OK {
		t.Errorf("Black = %v, error %d", s, e)
	}
	all := api.Shade{Black: span(0, api.MaxBlack), Strength: span(0, api.MaxTest), Wear: span(0, api.MaxTest)}
	if l, e := Has(curve, []api.Shade{all}, most); !slices.Equal(l, []int{0}) || e != api.OK {
		t.Errorf("Has = %v, error %d", l, e)
	}
	if i, k, e := Ordered(curve, []api.Leads{most, most}, []int{api.MaxTones - 1, 0}, api.MaxBlack); i != 1 || k != 0 || e != api.OK {
		t.Errorf("Ordered = %d, %d, error %d", i, k, e)
	}
	if cuts, many, e := Cut(curve, []api.Leads{most}, scale(1, api.MaxBlack, api.MaxBlack, api.MaxBlack)); !slices.Equal(cuts, []int{0, 200}) || many != 0 || e != api.OK {
		t.Errorf("Cut = %v, %d, error %d", cuts, many, e)
	}
}

// P1: whatever the numbers are, each function ends, and has a result or an error.
func TestAnyArguments(t *testing.T) {
	ends := []int{math.MinInt, -1, 0, 1, 200, 1000, api.MaxGrams, math.MaxInt}
	for _, lo := range ends {
		for _, hi := range ends {
			s := span(lo, hi)
			curves := [][]api.Tint{even(), {tint(0, lo), tint(1000, hi)}, {tint(lo, 0), tint(hi, 0)}, {tint(0, 0), tint(lo, hi), tint(hi, lo), tint(1000, 200)}}
			leads := []api.Leads{{Graphite: s, Clay: s, Strokes: []api.Stroke{onPaper(s, s)}}, {Graphite: s, Tol: lo}, {Graphite: span(1, 1), Clay: s}, read(onPaper(s, span(1, 9))), read(onPaper(span(1, 9), s)), read(onPaper(span(0, 0), s))}
			for _, c := range curves {
				for _, l := range leads {
					Black(c, l)
					Has(c, []api.Shade{{Black: s, Strength: s, Wear: s}}, l)
					Ordered(c, []api.Leads{l, l}, []int{lo, hi}, hi)
					Cut(c, []api.Leads{l, l}, scale(3, lo, hi, 1))
				}
				Ordered(c, nil, nil, lo)
				Cut(c, nil, scale(lo, hi, lo, hi))
				Cut(c, four(), scale(2, 3, hi, lo))
			}
		}
	}
}

// R4: arguments stay as they were.
func TestArgumentsStay(t *testing.T) {
	c, s, one, l, as := bent(), shades(), example(), append(four(), example()), []int{0, 1, 0, 1, 2}
	Black(c, one)
	Has(c, s, one)
	Ordered(c, l, as, 5)
	Cut(c, l, scale(3, 10, 20, 5))
	same := func(a, b api.Leads) bool {
		return slices.Equal(a.Strokes, b.Strokes) && a.Graphite == b.Graphite && a.Clay == b.Clay && a.Strength == b.Strength && a.Wear == b.Wear && a.Tol == b.Tol && a.Many == b.Many
	}
	if !slices.Equal(c, bent()) || !slices.Equal(s, shades()) || !same(one, example()) || !slices.EqualFunc(l, append(four(), example()), same) || !slices.Equal(as, []int{0, 1, 0, 1, 2}) {
		t.Errorf("the arguments have become %v, %v, %v, %v, %v", c, s, one, l, as)
	}
}

// A caller that has seen enough pairs may leave.
func TestPairsCanBeLeft(t *testing.T) {
	var seen [][2]int
	for i, k := range pairs(3) {
		seen = append(seen, [2]int{i, k})
		if i == 1 {
			break
		}
	}
	if !slices.Equal(seen, [][2]int{{0, 1}, {0, 2}, {1, 0}}) {
		t.Errorf("the pairs were %v", seen)
	}
}
