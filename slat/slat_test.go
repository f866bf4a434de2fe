package slat

import (
	"math"
	"slices"
	"testing"

	"pencilworks/api"
)

func span(lo, hi int) api.Span { return api.Span{Lo: lo, Hi: hi} }

// jig returns the jig of the chapter's examples, with some changes.
func jig(changes ...func(j *api.Jig)) api.Jig {
	j := api.Jig{Glue: span(10, 20), Lead: span(2000, 2020), Side: span(-5, 5), Height: span(-10, 10), Play: 40, Grooves: 3}
	for _, change := range changes {
		change(&j)
	}
	return j
}

// slatA to slatD return the slats of the chapter's examples, with some changes.

func slatA(changes ...func(s *api.Slat)) api.Slat {
	return changed(api.Slat{Thick: span(5000, 5010), Depth: span(1010, 1020), Shift: span(0, 4), Pitch: span(1, 2)}, changes)
}

func slatB(changes ...func(s *api.Slat)) api.Slat {
	return changed(api.Slat{Thick: span(4980, 4990), Depth: span(1000, 1010), Shift: span(-2, 2), Pitch: span(0, 1)}, changes)
}

func slatC() api.Slat { return slatA(thick(4900, 4910)) }

func slatD() api.Slat { return slatB(thick(4880, 4890)) }

// plain returns a slat all of whose numbers are known, with some changes: in a jig that is plain its leads lie off by nothing.
func plain(changes ...func(s *api.Slat)) api.Slat {
	return changed(api.Slat{Thick: span(5000, 5000), Depth: span(1000, 1000)}, changes)
}

func plainJig(changes ...func(j *api.Jig)) api.Jig {
	j := api.Jig{Lead: span(2000, 2000), Play: 500, Grooves: 1}
	for _, change := range changes {
		change(&j)
	}
	return j
}

func changed(s api.Slat, changes []func(s *api.Slat)) api.Slat {
	for _, change := range changes {
		change(&s)
	}
	return s
}

// Changes of slats.

func thick(lo, hi int) func(s *api.Slat) { return func(s *api.Slat) { s.Thick = span(lo, hi) } }
func depth(lo, hi int) func(s *api.Slat) { return func(s *api.Slat) { s.Depth = span(lo, hi) } }
func shift(lo, hi int) func(s *api.Slat) { return func(s *api.Slat) { s.Shift = span(lo, hi) } }
func pitch(lo, hi int) func(s *api.Slat) { return func(s *api.Slat) { s.Pitch = span(lo, hi) } }

// Changes of jigs.

func glue(lo, hi int) func(j *api.Jig)   { return func(j *api.Jig) { j.Glue = span(lo, hi) } }
func rod(lo, hi int) func(j *api.Jig)    { return func(j *api.Jig) { j.Lead = span(lo, hi) } }
func side(lo, hi int) func(j *api.Jig)   { return func(j *api.Jig) { j.Side = span(lo, hi) } }
func height(lo, hi int) func(j *api.Jig) { return func(j *api.Jig) { j.Height = span(lo, hi) } }
func play(n int) func(j *api.Jig)        { return func(j *api.Jig) { j.Play = n } }
func grooves(n int) func(j *api.Jig)     { return func(j *api.Jig) { j.Grooves = n } }

// P5.1: the chapter's examples; what each number alone does to both spans; the first and the last groove; the ends of all numbers.
func TestOff(t *testing.T) {
	ten := plainJig(grooves(10))
	for _, c := range []struct {
		name         string
		j            api.Jig
		lower, upper api.Slat
		groove       int
		side, height api.Span
	}{
		{"example, the groove 0", jig(), slatA(), slatB(), 0, span(-12, 16), span(-70, 40)},
		{"example, the groove 1", jig(), slatA(), slatB(), 1, span(-11, 19), span(-70, 40)},
		{"example, the groove 2", jig(), slatA(), slatB(), 2, span(-10, 22), span(-70, 40)},
		{"example, upside down", jig(), slatB(), slatA(), 2, span(-10, 22), span(-90, 20)},

		{"nothing", plainJig(), plain(), plain(), 0, span(0, 0), span(0, 0)},
		{"the thick of the lower slat", plainJig(), plain(thick(5000, 5003)), plain(), 0, span(0, 0), span(0, 3)},
		{"the thick of the upper slat", plainJig(), plain(), plain(thick(5000, 5003)), 0, span(0, 0), span(-3, 0)},
		{"the depth of the lower slat", plainJig(), plain(depth(1000, 1003)), plain(), 0, span(0, 0), span(-6, 0)},
		{"the depth of the upper slat makes no difference", plainJig(), plain(), plain(depth(1000, 1003)), 0, span(0, 0), span(0, 0)},
		{"the glue", plainJig(glue(0, 3)), plain(), plain(), 0, span(0, 0), span(-3, 0)},
		{"the lead", plainJig(rod(1999, 2003)), plain(), plain(), 0, span(0, 0), span(-1, 3)},
		{"the side", plainJig(side(-1, 3)), plain(), plain(), 0, span(-6, 2), span(0, 0)},
		{"the height", plainJig(height(-1, 3)), plain(), plain(), 0, span(0, 0), span(-6, 2)},
		{"the shift of the lower slat", plainJig(), plain(shift(-1, 3)), plain(), 0, span(-1, 3), span(0, 0)},
		{"the shift of the upper slat", plainJig(), plain(), plain(shift(-1, 3)), 0, span(-1, 3), span(0, 0)},
		{"the pitch of the lower slat, at first", ten, plain(pitch(-1, 3)), plain(), 0, span(0, 0), span(0, 0)},
		{"the pitch of the lower slat, at last", ten, plain(pitch(-1, 3)), plain(), 9, span(-9, 27), span(0, 0)},
		{"the pitch of the upper slat, in the middle", ten, plain(), plain(pitch(-1, 3)), 4, span(-4, 12), span(0, 0)},
		{"a pitch below 0", ten, plain(pitch(-3, -1)), plain(pitch(-2, -2)), 9, span(-45, -27), span(0, 0)},
		{"a sandwich that never closes", plainJig(play(0), rod(5000, 5000)), plain(shift(7, 7)), plain(), 0, span(7, 7), span(3000, 3000)},

		{"as far to one side as can be", ten, plain(shift(500, 500), pitch(50, 50)), plain(shift(500, 500), pitch(50, 50)), 9, span(1900, 1900), span(0, 0)},
		{"as far to either side as can be", plainJig(grooves(10), side(-500, 500)), plain(shift(-500, 500), pitch(-50, 50)), plain(shift(-500, 500), pitch(-50, 50)), 9, span(-2900, 2900), span(0, 0)},
		{"as low as can be", plainJig(glue(500, 500), rod(1, 1), height(500, 500)), plain(thick(10000, 10000), depth(10000, 10000)), plain(thick(10000, 10000)), 0, span(0, 0), span(-21499, -21499)},
		{"as high as can be", plainJig(rod(5000, 5000), height(-500, -500)), plain(thick(10000, 10000), depth(0, 0)), plain(thick(1, 1), depth(1, 1)), 0, span(0, 0), span(15999, 15999)},
	} {
		if s, h, e := Off(c.j, c.lower, c.upper, c.groove); s != c.side || h != c.height || e != api.OK {
			t.Errorf("%s: Off = %v, %v, error %d, not %v, %v", c.name, s, h, e, c.side, c.height)
		}
	}
}

// P5.2: the chapter's examples; where grooves and leads just fit, and just do not; one truth has to do for the first and for the last grooves.
func TestCloses(t *testing.T) {
	ten := func(n int) api.Jig { return plainJig(grooves(10), play(n)) }
	for _, c := range []struct {
		name         string
		j            api.Jig
		lower, upper api.Slat
		want         int
	}{
		{"example", jig(), slatA(), slatB(), api.ClosesAlways},
		{"example, less glue", jig(glue(9, 20)), slatA(), slatB(), api.ClosesPerhaps},
		{"example, too thick a lead", jig(rod(2051, 2060)), slatA(), slatB(), api.ClosesNever},
		{"example, just not too thick a lead", jig(rod(2050, 2060)), slatA(), slatB(), api.ClosesPerhaps},

		{"a lead that just fits", plainJig(), plain(), plain(), api.ClosesAlways},
		{"a lead that is too thick", plainJig(rod(2001, 2001)), plain(), plain(), api.ClosesNever},
		{"a lead that can be too thick", plainJig(rod(2000, 2001)), plain(), plain(), api.ClosesPerhaps},
		{"a lead that fits with the glue", plainJig(rod(2001, 2001), glue(1, 2)), plain(), plain(), api.ClosesAlways},
		{"a lead that fits if the glue is thick", plainJig(rod(2002, 2002), glue(1, 2)), plain(), plain(), api.ClosesPerhaps},
		{"a lead that fits if the lower groove is deep", plainJig(), plain(depth(999, 1000)), plain(), api.ClosesPerhaps},
		{"a lead that fits if the upper groove is deep", plainJig(), plain(), plain(depth(999, 1000)), api.ClosesPerhaps},
		{"grooves that are as deep as slats are thick", plainJig(), plain(depth(5000, 5000)), plain(depth(0, 0)), api.ClosesAlways},
		{"no grooves", plainJig(rod(1, 1)), plain(depth(0, 0)), plain(depth(0, 0)), api.ClosesNever},
		{"a thin lead needs only thick glue", plainJig(rod(1, 500), glue(500, 500)), plain(depth(0, 0)), plain(depth(0, 0)), api.ClosesAlways},
		{"how thick the slats are makes no difference", plainJig(), plain(thick(1000, 9000)), plain(thick(1000, 9000)), api.ClosesAlways},
		{"how the shaper cuts makes no difference", plainJig(play(0), side(-500, 500), height(-500, 500)), plain(), plain(), api.ClosesAlways},

		{"no play", plainJig(play(0)), plain(shift(7, 7)), plain(shift(7, 7)), api.ClosesAlways},
		{"no play, and shifts that can differ", plainJig(play(0)), plain(shift(7, 8)), plain(shift(7, 7)), api.ClosesPerhaps},
		{"no play, and shifts that differ", plainJig(play(0)), plain(shift(8, 8)), plain(shift(7, 7)), api.ClosesNever},
		{"just enough play to one side", plainJig(play(5)), plain(shift(5, 5)), plain(), api.ClosesAlways},
		{"just enough play to the other side", plainJig(play(5)), plain(), plain(shift(5, 5)), api.ClosesAlways},
		{"just enough play to both sides", plainJig(play(5)), plain(shift(-5, 5)), plain(), api.ClosesAlways},
		{"just too little play to one side", plainJig(play(5)), plain(shift(-5, 6)), plain(), api.ClosesPerhaps},
		{"just too little play to the other side", plainJig(play(5)), plain(shift(-6, 5)), plain(), api.ClosesPerhaps},
		{"much too little play to both sides", plainJig(play(0)), plain(shift(-500, 500)), plain(shift(-500, 500)), api.ClosesPerhaps},
		{"just one truth has enough play", plainJig(play(5)), plain(shift(5, 500)), plain(), api.ClosesPerhaps},
		{"no truth has enough play", plainJig(play(5)), plain(shift(6, 500)), plain(), api.ClosesNever},
		{"shifts that are alike can differ", plainJig(play(5)), plain(shift(3, 6)), plain(shift(3, 6)), api.ClosesAlways},
		{"shifts that are alike can differ by too much", plainJig(play(5)), plain(shift(3, 9)), plain(shift(3, 9)), api.ClosesPerhaps},

		{"a pitch that the play just allows", ten(9), plain(pitch(1, 1)), plain(), api.ClosesAlways},
		{"a pitch that is just too great", ten(8), plain(pitch(1, 1)), plain(), api.ClosesNever},
		{"a pitch that can be too great", ten(8), plain(pitch(0, 1)), plain(), api.ClosesPerhaps},
		{"a pitch below 0 that the play just allows", ten(18), plain(), plain(pitch(2, 2)), api.ClosesAlways},
		{"a pitch below 0 that is just too great", ten(17), plain(), plain(pitch(2, 2)), api.ClosesNever},
		{"one groove has no pitch", plainJig(play(0)), plain(pitch(-50, 50)), plain(), api.ClosesAlways},
		{"two grooves have one", plainJig(play(0), grooves(2)), plain(pitch(1, 1)), plain(), api.ClosesNever},
		{"a pitch that makes up for a shift", ten(9), plain(shift(-4, -4), pitch(1, 1)), plain(), api.ClosesAlways},
		{"a pitch that adds to a shift", ten(9), plain(shift(1, 1), pitch(1, 1)), plain(), api.ClosesNever},
		{"only the first grooves miss", ten(4), plain(shift(-5, -5), pitch(1, 1)), plain(), api.ClosesNever},

		// The first grooves meet with shifts up to -play, the last ones with shifts from -450 + play on.
		{"one truth for all grooves", ten(225), plain(shift(-450, 0), pitch(50, 50)), plain(), api.ClosesPerhaps},
		{"truths for all grooves, but none for them together", ten(224), plain(shift(-450, 0), pitch(50, 50)), plain(), api.ClosesNever},
		{"the same to the other side", ten(225), plain(), plain(shift(-450, 0), pitch(50, 50)), api.ClosesPerhaps},
		{"the same to the other side, but not together", ten(224), plain(), plain(shift(-450, 0), pitch(50, 50)), api.ClosesNever},
		{"one truth of shifts and pitches", ten(221), plain(shift(-450, 0), pitch(49, 50)), plain(), api.ClosesPerhaps},
		{"no truth of shifts and pitches", ten(220), plain(shift(-450, 0), pitch(49, 50)), plain(), api.ClosesNever},

		{"grooves never, leads always", plainJig(play(5)), plain(shift(6, 6)), plain(), api.ClosesNever},
		{"grooves perhaps, leads never", plainJig(play(5), rod(2001, 2001)), plain(shift(5, 6)), plain(), api.ClosesNever},
		{"grooves perhaps, leads perhaps", plainJig(play(5), rod(2000, 2001)), plain(shift(5, 6)), plain(), api.ClosesPerhaps},
		{"grooves always, leads perhaps", plainJig(play(6), rod(2000, 2001)), plain(shift(5, 6)), plain(), api.ClosesPerhaps},
	} {
		if got, e := Closes(c.j, c.lower, c.upper); got != c.want || e != api.OK {
			t.Errorf("%s: Closes = %d, error %d, not %d", c.name, got, e, c.want)
		}
	}
}

// P5.3: the chapter's examples; a lead that just is within a limit, and one that just is not; which of several grades it has.
func TestGrades(t *testing.T) {
	// The lead lies off by 6 and 8, doubled, which is 5 together.
	five := func(changes ...func(s *api.Slat)) api.Slat { return plain(append(changes, shift(6, 6))...) }
	high := plainJig(height(-4, -4))
	for _, c := range []struct {
		name         string
		j            api.Jig
		lower, upper api.Slat
		limits       []int
		want         []int
	}{
		{"example", jig(), slatA(), slatB(), []int{36, 37, 50}, []int{0, 1, 1}},
		{"example, none", jig(), slatA(), slatB(), []int{30}, []int{-1, -1, -1}},
		{"further limits", jig(), slatA(), slatB(), []int{0, 36, 50, 1000}, []int{1, 2, 2}},
		{"some without a grade", jig(), slatA(), slatB(), []int{1, 36}, []int{1, -1, -1}},

		{"nothing off, by the limit 0", plainJig(), plain(), plain(), []int{0}, []int{0}},
		{"nothing off, by all limits", plainJig(), plain(), plain(), []int{0, 1, 1000}, []int{0}},
		{"half off", plainJig(), plain(shift(1, 1)), plain(), []int{0, 1}, []int{1}},
		{"just within", high, five(), plain(), []int{5}, []int{0}},
		{"just not within", high, five(), plain(), []int{4}, []int{-1}},
		{"just within the second one", high, five(), plain(), []int{4, 5, 6}, []int{1}},
		{"half too far to the side", high, plain(shift(7, 7)), plain(), []int{5, 6}, []int{1}},
		{"half too high", high, five(thick(5001, 5001)), plain(), []int{5, 6}, []int{1}},
		{"just within, with both signs", plainJig(height(4, 4)), plain(shift(-6, -6)), plain(), []int{4, 5}, []int{1}},
		{"surely within, on all sides", plainJig(height(-4, 4)), plain(shift(-6, 6)), plain(), []int{4, 5}, []int{1}},
		{"perhaps not within, to the left", plainJig(height(-4, 4)), plain(shift(-7, 6)), plain(), []int{5}, []int{-1}},
		{"perhaps not within, to the right", plainJig(height(-4, 4)), plain(shift(-6, 7)), plain(), []int{5}, []int{-1}},
		{"perhaps too low", plainJig(height(-4, 5)), plain(shift(-6, 6)), plain(), []int{5}, []int{-1}},
		{"perhaps too high", plainJig(height(-5, 4)), plain(shift(-6, 6)), plain(), []int{5}, []int{-1}},
		{"perhaps in the centre", plainJig(side(-300, 300)), plain(), plain(), []int{0, 299, 300}, []int{2}},
		{"only to the side", plainJig(), plain(shift(10, 10)), plain(), []int{4, 5}, []int{1}},
		{"only in height", plainJig(height(5, 5)), plain(), plain(), []int{4, 5}, []int{1}},
		{"each groove has its own", plainJig(grooves(10)), plain(pitch(2, 2)), plain(), []int{0, 1, 2, 3, 4, 5, 6, 8}, []int{0, 1, 2, 3, 4, 5, 6, 7, 7, -1}},
		{"a lead in the middle is best", plainJig(grooves(5)), plain(shift(-4, -4), pitch(2, 2)), plain(), []int{0, 1}, []int{-1, 1, 0, 1, -1}},
		{"just within the greatest limit", plainJig(height(-500, -500)), plain(thick(6000, 6000)), plain(), []int{999, 1000}, []int{1}},
		{"just beyond the greatest limit", plainJig(height(-500, -500)), plain(thick(6001, 6001)), plain(), []int{999, 1000}, []int{-1}},
		{"very far beyond", plainJig(rod(1, 1), glue(500, 500), height(500, 500)), plain(thick(10000, 10000), depth(10000, 10000)), plain(thick(10000, 10000)), []int{1000}, []int{-1}},
	} {
		if got, e := Grades(c.j, c.lower, c.upper, c.limits); !slices.Equal(got, c.want) || e != api.OK {
			t.Errorf("%s: Grades = %v, error %d, not %v", c.name, got, e, c.want)
		}
	}
}

// thicks returns plain slats that are thicker by some numbers, so that of two of them the leads lie off by the difference.
func thicks(more ...int) []api.Slat {
	var l []api.Slat
	for _, n := range more {
		l = append(l, plain(thick(5000+n, 5000+n)))
	}
	return l
}

// shifts returns plain slats with some shifts.
func shifts(at ...int) []api.Slat {
	var l []api.Slat
	for _, n := range at {
		l = append(l, plain(shift(n, n)))
	}
	return l
}

// P5.4: the chapter's examples; slats that are spared for others; which of several lists is first.
func TestPair(t *testing.T) {
	a, b, c, d := slatA(), slatB(), slatC(), slatD()
	list := func(l ...api.Slat) []api.Slat { return l }
	tight := plainJig(play(5))
	for _, c := range []struct {
		name         string
		j            api.Jig
		lower, upper []api.Slat
		limit        int
		with         []int
		leads        int
	}{
		{"example", jig(), list(a, c), list(b, d), 37, []int{0, 1}, 6},
		{"example, the other way round", jig(), list(a, c), list(d, b), 37, []int{1, 0}, 6},
		{"example, a lesser limit", jig(), list(a, c), list(b, d), 36, []int{0, 1}, 2},

		{"no slats", jig(), nil, nil, 37, nil, 0},
		{"no slats, but lists", jig(), list(), list(), 37, nil, 0},
		{"no lower slat", jig(), nil, list(b, d), 37, nil, 0},
		{"no upper slats", jig(), list(a, c), nil, 37, []int{-1, -1}, 0},
		{"one upper slat for two", jig(), list(a, a), list(b), 37, []int{0, -1}, 3},
		{"one upper slat for the second one", jig(), list(c, a), list(b), 37, []int{-1, 0}, 3},
		{"one lower slat for two", jig(), list(a), list(b, b), 37, []int{0}, 3},
		{"one lower slat for the second one", jig(), list(a), list(d, b), 37, []int{1}, 3},

		{"what is not centred is glued too", jig(), list(a, a), list(d, d), 37, []int{0, 1}, 0},
		{"what is not centred is glued last", jig(), list(a, a), list(b, d), 37, []int{0, 1}, 3},
		{"the first one that is not centred", jig(), list(a), list(d, d), 37, []int{0}, 0},
		{"what never closes is not glued", tight, shifts(6), shifts(0), 1000, []int{-1}, 0},
		{"what perhaps closes is not glued", tight, list(plain(shift(0, 6))), shifts(0), 1000, []int{-1}, 0},
		{"what just closes is glued", tight, list(plain(shift(0, 5))), shifts(0), 1000, []int{0}, 1},
		{"only one closes", tight, shifts(0, 10), shifts(20, 12), 1000, []int{-1, 1}, 1},
		{"each closes with one", tight, shifts(0, 10, 20), shifts(21, 1, 11), 1000, []int{1, 2, 0}, 3},

		{"an upper slat is spared", plainJig(), thicks(2, 0), thicks(0, 4), 1, []int{1, 0}, 2},
		{"an upper slat is spared for what can be glued with nothing else", tight, shifts(5, 0), shifts(0, 10), 1000, []int{1, 0}, 2},
		{"a lower slat is left out", tight, shifts(0, 0), shifts(5), 1000, []int{0, -1}, 1},
		{"the first slat is not glued, so that more leads are centred", plainJig(grooves(3)), list(plain(pitch(2, 2)), plain()), list(plain()), 1, []int{-1, 0}, 3},
		{"more leads of some, none of others", plainJig(grooves(10)), list(plain(pitch(2, 2)), plain(pitch(1, 1))), list(plain(pitch(-1, -1)), plain(pitch(-2, -2))), 1, []int{1, 0}, 20},
		{"fewer leads of the first, more of all", plainJig(grooves(10)), list(plain(pitch(1, 1)), plain(pitch(-1, -1))), list(plain(pitch(-1, -1)), plain()), 1, []int{0, 1}, 13},
		{"all do equally well", plainJig(), thicks(0, 0, 0), thicks(0, 0, 0), 0, []int{0, 1, 2}, 3},
		{"all do equally well, and some are left", plainJig(), thicks(0, 0, 0), thicks(0, 0), 0, []int{0, 1, -1}, 2},
		{"which ones are left", plainJig(), thicks(9, 0, 9, 0), thicks(0, 0), 0, []int{-1, 0, -1, 1}, 2},
		{"as many as can be", plainJig(), thicks(0, 1, 2, 3, 4, 5, 6), thicks(6, 5, 4, 3, 2, 1, 0), 0, []int{6, 5, 4, 3, 2, 1, 0}, 7},
		{"as many as can be, that all do", plainJig(), thicks(make([]int, 7)...), thicks(make([]int, 7)...), 0, []int{0, 1, 2, 3, 4, 5, 6}, 7},
		{"as many as can be, just so", plainJig(), thicks(0, 1, 2, 3, 4, 5, 6), thicks(7, 6, 5, 4, 3, 2, 1), 1, []int{5, 4, 3, 6, 1, 0, 2}, 7},
		{"as many grooves as can be", plainJig(grooves(10)), thicks(make([]int, 7)...), thicks(make([]int, 7)...), 0, []int{0, 1, 2, 3, 4, 5, 6}, 70},
	} {
		if with, leads, e := Pair(c.j, c.lower, c.upper, c.limit); !slices.Equal(with, c.with) || leads != c.leads || e != api.OK {
			t.Errorf("%s: Pair = %v, %d, error %d, not %v, %d", c.name, with, leads, e, c.with, c.leads)
		}
	}
}

// P5.5: the chapter's example; the greatest numbers, and the next ones; which of several settings is meant.
func TestTune(t *testing.T) {
	one := func(changes ...func(s *api.Slat)) []api.Slat { return []api.Slat{plain(changes...)} }
	none := thicks(0, 0)
	for _, c := range []struct {
		name                string
		j                   api.Jig
		lower, upper        []api.Slat
		limit               int
		side, height, leads int
	}{
		{"example", jig(), []api.Slat{slatA()}, []api.Slat{slatB()}, 30, 1, -7, 3},
		{"as it is", jig(), []api.Slat{slatA()}, []api.Slat{slatB()}, 37, 0, 0, 3},
		{"in vain", jig(), []api.Slat{slatA()}, []api.Slat{slatB()}, 20, 0, 0, 0},
		{"no sandwich", jig(), nil, nil, 30, 0, 0, 0},
		{"no sandwich, but lists", jig(), []api.Slat{}, []api.Slat{}, 30, 0, 0, 0},

		{"exactly, to the right", plainJig(), shifts(6), shifts(0), 0, 3, 0, 1},
		{"exactly, to the left", plainJig(), shifts(0), shifts(-6), 0, -3, 0, 1},
		{"exactly, higher", plainJig(), thicks(8), thicks(0), 0, 0, 4, 1},
		{"exactly, lower", plainJig(), thicks(0), thicks(8), 0, 0, -4, 1},
		{"no more than it needs", plainJig(), shifts(6), shifts(0), 2, 1, 0, 1},
		{"half a number cannot be set", plainJig(), shifts(5), shifts(0), 0, 0, 0, 0},
		{"half a number may be left", plainJig(), shifts(5), shifts(0), 1, 2, 0, 1},
		{"as far to the right as can be", plainJig(), shifts(80), shifts(0), 0, 40, 0, 1},
		{"too far to the right", plainJig(), shifts(81), shifts(0), 0, 0, 0, 0},
		{"as far to the left as can be", plainJig(), shifts(-80), shifts(0), 0, -40, 0, 1},
		{"too far to the left", plainJig(), shifts(-82), shifts(0), 0, 0, 0, 0},
		{"as high as can be", plainJig(), thicks(80), thicks(0), 0, 0, 40, 1},
		{"too high", plainJig(), thicks(82), thicks(0), 0, 0, 0, 0},
		{"as low as can be", plainJig(), thicks(-80), thicks(0), 0, 0, -40, 1},
		{"too low", plainJig(), thicks(-82), thicks(0), 0, 0, 0, 0},
		{"into the first corner", plainJig(), one(shift(-80, -80), thick(4920, 4920)), one(), 0, -40, -40, 1},
		{"into the last corner", plainJig(), one(shift(80, 80), thick(5080, 5080)), one(), 0, 40, 40, 1},
		{"higher than the jig may be", plainJig(height(500, 500)), thicks(1080), thicks(0), 0, 0, 40, 1},
		{"further than the jig may be", plainJig(side(500, 500), grooves(2)), one(shift(500, 500), pitch(10, 10)), one(shift(500, 500), pitch(10, 10)), 9, 1, 0, 2},

		{"a span", plainJig(), one(shift(0, 12)), one(), 3, 3, 0, 1},
		{"a span that is too wide", plainJig(), one(shift(0, 13)), one(), 3, 0, 0, 0},
		{"between two leads", plainJig(), shifts(0, 12), shifts(0, 0), 3, 3, 0, 2},
		{"one of two leads", plainJig(), shifts(0, 14), shifts(0, 0), 3, 0, 0, 1},
		{"more leads, further", plainJig(), shifts(0, 40, 40), shifts(0, 0, 0), 3, 17, 0, 2},
		{"more leads of one sandwich", plainJig(grooves(4)), one(pitch(10, 10)), one(), 10, 5, 0, 4},
		{"most leads of one sandwich", plainJig(grooves(4)), one(pitch(10, 10)), one(), 5, 5, 0, 3},
		{"most leads of one sandwich that lies off", plainJig(grooves(4)), one(shift(-50, -50), pitch(10, 10)), one(), 5, -15, 0, 3},

		{"the least amounts", plainJig(), []api.Slat{plain(shift(-4, -4)), plain(thick(5006, 5006))}, none, 0, -2, 0, 1},
		{"the least amounts, in height", plainJig(), []api.Slat{plain(shift(-6, -6)), plain(thick(5004, 5004))}, none, 0, 0, 2, 1},
		{"the least amounts together", plainJig(), []api.Slat{plain(shift(-4, -4), thick(4996, 4996)), plain(thick(5006, 5006))}, none, 0, 0, 3, 1},
		{"left or right", plainJig(), shifts(2, -2), shifts(0, 0), 0, -1, 0, 1},
		{"high or low", plainJig(), thicks(2, -2), thicks(0, 0), 0, 0, -1, 1},
		{"left or low", plainJig(), []api.Slat{plain(shift(-2, -2)), plain(thick(4998, 4998))}, none, 0, -1, 0, 1},
		{"left or high", plainJig(), []api.Slat{plain(shift(-2, -2)), plain(thick(5002, 5002))}, none, 0, -1, 0, 1},
		{"right or low", plainJig(), []api.Slat{plain(shift(2, 2)), plain(thick(4998, 4998))}, none, 0, 0, -1, 1},
		{"right or high", plainJig(), []api.Slat{plain(shift(2, 2)), plain(thick(5002, 5002))}, none, 0, 0, 1, 1},
		{"further left or less far", plainJig(), []api.Slat{plain(shift(-4, -4)), plain(shift(-2, -2), thick(4998, 4998))}, none, 0, -2, 0, 1},
		{"left and high, or left and low", plainJig(), []api.Slat{plain(shift(-2, -2), thick(5002, 5002)), plain(shift(-2, -2), thick(4998, 4998))}, none, 0, -1, -1, 1},
	} {
		if s, h, n, e := Tune(c.j, c.lower, c.upper, c.limit); s != c.side || h != c.height || n != c.leads || e != api.OK {
			t.Errorf("%s: Tune = %d, %d, %d, error %d, not %d, %d, %d", c.name, s, h, n, e, c.side, c.height, c.leads)
		}
	}
}

// wrongSpans returns spans that are not within two bounds.
func wrongSpans(least, most int) []api.Span {
	return []api.Span{span(least-1, most), span(least, most+1), span(least+1, least), span(most+1, most+1), span(least-1, least-1), span(math.MinInt, math.MaxInt), span(math.MaxInt, math.MinInt)}
}

// wrongNumbers returns numbers that are not from one to another one.
func wrongNumbers(least, most int) []int {
	return []int{least - 1, most + 1, math.MinInt, math.MaxInt}
}

// wrongJigs returns jigs that are not valid.
func wrongJigs() []api.Jig {
	l := []api.Jig{{}, jig(rod(0, 0)), jig(grooves(0)), jig(grooves(-1))}
	for _, s := range wrongSpans(0, api.MaxGlue) {
		l = append(l, jig(glue(s.Lo, s.Hi)))
	}
	for _, s := range wrongSpans(1, api.MaxRod) {
		l = append(l, jig(rod(s.Lo, s.Hi)))
	}
	for _, s := range wrongSpans(-api.MaxShift, api.MaxShift) {
		l = append(l, jig(side(s.Lo, s.Hi)), jig(height(s.Lo, s.Hi)))
	}
	for _, n := range wrongNumbers(0, api.MaxShift) {
		l = append(l, jig(play(n)))
	}
	for _, n := range wrongNumbers(1, api.MaxGrooves) {
		l = append(l, jig(grooves(n)))
	}
	return l
}

// wrongSlats returns slats that are not valid.
func wrongSlats() []api.Slat {
	l := []api.Slat{{}, slatA(thick(1019, 5000)), slatA(depth(5000, 5001)), slatA(thick(0, 5), depth(0, 0))}
	for _, s := range wrongSpans(1, api.MaxThick) {
		l = append(l, slatA(thick(s.Lo, s.Hi)), slatA(thick(s.Lo, s.Hi), depth(0, 0)))
	}
	for _, s := range wrongSpans(0, slatA().Thick.Lo) {
		l = append(l, slatA(depth(s.Lo, s.Hi)))
	}
	for _, s := range wrongSpans(-api.MaxShift, api.MaxShift) {
		l = append(l, slatA(shift(s.Lo, s.Hi)))
	}
	for _, s := range wrongSpans(-api.MaxPitch, api.MaxPitch) {
		l = append(l, slatA(pitch(s.Lo, s.Hi)))
	}
	return l
}

// wrongLimits returns lists of limits that are not valid, but not too long.
func wrongLimits() [][]int {
	l := [][]int{nil, {}, {30, 30}, {36, 30}, {0, 0}, {0, 1, 2, 3, 4, 5, 6, 6}, {1, 2, 3, 2}, make([]int, 8)}
	for _, n := range wrongNumbers(0, api.MaxLimit) {
		l = append(l, []int{n}, []int{n, 30}, []int{30, n})
	}
	return l
}

// expectOff, expectCloses, expectGrades, expectPair and expectTune check that a function returns an error, and nothing else.

func expectOff(t *testing.T, want api.Errno, j api.Jig, lower, upper api.Slat, groove int) {
	t.Helper()
	if s, h, e := Off(j, lower, upper, groove); e != want || s != (api.Span{}) || h != (api.Span{}) {
		t.Errorf("Off(%v, %v, %v, %d) = %v, %v, error %d", j, lower, upper, groove, s, h, e)
	}
}

func expectCloses(t *testing.T, want api.Errno, j api.Jig, lower, upper api.Slat) {
	t.Helper()
	if n, e := Closes(j, lower, upper); e != want || n != 0 {
		t.Errorf("Closes(%v, %v, %v) = %d, error %d", j, lower, upper, n, e)
	}
}

func expectGrades(t *testing.T, want api.Errno, j api.Jig, lower, upper api.Slat, limits []int) {
	t.Helper()
	if l, e := Grades(j, lower, upper, limits); e != want || len(l) != 0 {
		t.Errorf("Grades(%v, %v, %v, %v) = %v, error %d", j, lower, upper, limits, l, e)
	}
}

func expectPair(t *testing.T, want api.Errno, j api.Jig, lower, upper []api.Slat, limit int) {
	t.Helper()
	if with, leads, e := Pair(j, lower, upper, limit); e != want || len(with) != 0 || leads != 0 {
		t.Errorf("Pair(%v, %v, %v, %d) = %v, %d, error %d", j, lower, upper, limit, with, leads, e)
	}
}

func expectTune(t *testing.T, want api.Errno, j api.Jig, lower, upper []api.Slat, limit int) {
	t.Helper()
	if s, h, leads, e := Tune(j, lower, upper, limit); e != want || s != 0 || h != 0 || leads != 0 {
		t.Errorf("Tune(%v, %v, %v, %d) = %d, %d, %d, error %d", j, lower, upper, limit, s, h, leads, e)
	}
}

// expectAll checks that all functions return an error, and nothing else.
func expectAll(t *testing.T, want api.Errno, j api.Jig, lower, upper api.Slat) {
	t.Helper()
	for _, n := range []int{-1, 0, 1001} {
		expectOff(t, want, j, lower, upper, n)
		expectGrades(t, want, j, lower, upper, []int{n})
		expectPair(t, want, j, []api.Slat{lower}, []api.Slat{upper}, n)
		expectTune(t, want, j, []api.Slat{lower}, []api.Slat{upper}, n)
	}
	expectCloses(t, want, j, lower, upper)
	expectGrades(t, want, j, lower, upper, nil)
	expectGrades(t, want, j, lower, upper, make([]int, 9))
}

// R1: ErrArg for the jig comes before all other errors.
func TestWrongJigs(t *testing.T) {
	for _, j := range wrongJigs() {
		expectAll(t, api.ErrArg, j, slatA(), slatB())
		expectAll(t, api.ErrArg, j, api.Slat{}, slatB())
		for _, n := range []int{-1, 30} {
			expectPair(t, api.ErrArg, j, nil, nil, n)
			expectPair(t, api.ErrArg, j, make([]api.Slat, 8), nil, n)
			expectTune(t, api.ErrArg, j, nil, nil, n)
			expectTune(t, api.ErrArg, j, slices.Repeat([]api.Slat{slatA()}, 8), nil, n)
		}
	}
}

// R1: ErrArg for any slat comes before all other errors.
func TestWrongSlats(t *testing.T) {
	loose := jig(glue(9, 20)) // in which nothing always closes
	for _, s := range wrongSlats() {
		for _, j := range []api.Jig{jig(), loose} {
			expectAll(t, api.ErrArg, j, s, slatB())
			expectAll(t, api.ErrArg, j, slatA(), s)
		}
		eight := append(slices.Repeat([]api.Slat{slatA()}, 7), s)
		for _, n := range []int{-1, 30} {
			for _, other := range [][]api.Slat{nil, {slatA()}, eight[:7], slices.Repeat(eight[:7], 2)} {
				expectPair(t, api.ErrArg, jig(), eight, other, n)
				expectPair(t, api.ErrArg, jig(), other, eight, n)
				expectTune(t, api.ErrArg, jig(), eight, other, n)
				expectTune(t, api.ErrArg, jig(), other, eight, n)
			}
		}
	}
}

// R1: ErrLong for slats and for limits comes before ErrRange and ErrState.
func TestTooMany(t *testing.T) {
	loose := jig(glue(9, 20))
	seven := slices.Repeat([]api.Slat{slatA()}, 7)
	for _, many := range [][]api.Slat{slices.Repeat(seven[:1], 8), slices.Repeat(seven, 10)} {
		for _, other := range [][]api.Slat{nil, seven, many} {
			for _, n := range []int{-1, 30, 1001} {
				expectPair(t, api.ErrLong, jig(), many, other, n)
				expectPair(t, api.ErrLong, jig(), other, many, n)
				expectTune(t, api.ErrLong, loose, many, other, n)
				expectTune(t, api.ErrLong, loose, other, many, n)
			}
		}
	}
	for _, limits := range [][]int{make([]int, 9), {1, 2, 3, 4, 5, 6, 7, 8, 9}, {-1, 2, 3, 4, 5, 6, 7, 8, 9999}, make([]int, 100)} {
		expectGrades(t, api.ErrLong, jig(), slatA(), slatB(), limits)
		expectGrades(t, api.ErrLong, loose, slatA(), slatB(), limits)
	}
}

// R1: ErrRange for each other argument, before ErrState.
func TestRanges(t *testing.T) {
	for _, j := range []api.Jig{jig(), jig(glue(9, 20)), jig(rod(2051, 2060))} {
		for _, n := range wrongNumbers(0, 2) {
			expectOff(t, api.ErrRange, j, slatA(), slatB(), n)
		}
		for _, limits := range wrongLimits() {
			expectGrades(t, api.ErrRange, j, slatA(), slatB(), limits)
		}
		for _, n := range wrongNumbers(0, api.MaxLimit) {
			expectPair(t, api.ErrRange, j, nil, nil, n)
			expectPair(t, api.ErrRange, j, []api.Slat{slatA()}, []api.Slat{slatB(), slatD()}, n)
			expectTune(t, api.ErrRange, j, nil, nil, n)
			expectTune(t, api.ErrRange, j, []api.Slat{slatA()}, []api.Slat{slatB()}, n)
		}
		for lower := range 8 {
			for upper := range 8 {
				if lower != upper {
					expectTune(t, api.ErrRange, j, slices.Repeat([]api.Slat{slatA()}, lower), slices.Repeat([]api.Slat{slatB()}, upper), 30)
				}
			}
		}
	}
}

// P5.3, P5.5: ErrState unless each sandwich always closes, whether it perhaps does or never.
func TestStates(t *testing.T) {
	far := slatB(shift(100, 100))
	for _, j := range []api.Jig{jig(glue(9, 20)), jig(rod(2000, 2021)), jig(play(9)), jig(rod(2051, 2060))} {
		expectGrades(t, api.ErrState, j, slatA(), slatB(), []int{1000})
		expectTune(t, api.ErrState, j, []api.Slat{slatA()}, []api.Slat{slatB()}, 1000)
	}
	expectGrades(t, api.ErrState, jig(), slatA(), far, []int{30})
	expectTune(t, api.ErrState, jig(), []api.Slat{slatA(), slatA()}, []api.Slat{slatB(), far}, 30)
	expectTune(t, api.ErrState, jig(), []api.Slat{slatA(), slatA()}, []api.Slat{far, slatB()}, 30)
}

// R7: each number may be at its limit.
func TestLimits(t *testing.T) {
	most := api.Jig{Glue: span(api.MaxGlue, api.MaxGlue), Lead: span(api.MaxRod, api.MaxRod), Side: span(api.MaxShift, api.MaxShift), Height: span(api.MaxShift, api.MaxShift), Play: api.MaxShift, Grooves: api.MaxGrooves}
	thickest := api.Slat{Thick: span(api.MaxThick, api.MaxThick), Depth: span(api.MaxThick, api.MaxThick), Shift: span(api.MaxShift, api.MaxShift), Pitch: span(api.MaxPitch, api.MaxPitch)}
	least := api.Jig{Glue: span(0, 0), Lead: span(1, 1), Side: span(-api.MaxShift, -api.MaxShift), Height: span(-api.MaxShift, -api.MaxShift), Grooves: 1}
	thinnest := api.Slat{Thick: span(1, 1), Depth: span(1, 1), Shift: span(-api.MaxShift, -api.MaxShift), Pitch: span(-api.MaxPitch, -api.MaxPitch)}
	for _, c := range []struct {
		j            api.Jig
		s            api.Slat
		groove       int
		side, height int
	}{{most, thickest, 9, 900, -16500}, {least, thinnest, 0, 0, 999}} {
		if s, h, e := Off(c.j, c.s, c.s, c.groove); s != span(c.side, c.side) || h != span(c.height, c.height) || e != api.OK {
			t.Errorf("Off = %v, %v, error %d", s, h, e)
		}
		if n, e := Closes(c.j, c.s, c.s); n != api.ClosesAlways || e != api.OK {
			t.Errorf("Closes = %d, error %d", n, e)
		}
		seven := slices.Repeat([]api.Slat{c.s}, api.MaxSlats)
		if with, _, e := Pair(c.j, seven, seven, api.MaxLimit); !slices.Equal(with, []int{0, 1, 2, 3, 4, 5, 6}) || e != api.OK {
			t.Errorf("Pair = %v, error %d", with, e)
		}
		if _, _, _, e := Tune(c.j, seven, seven, 0); e != api.OK {
			t.Errorf("Tune: error %d", e)
		}
	}
	if l, e := Grades(least, thinnest, thinnest, []int{0, 1, 2, 3, 4, 5, 499, 500}); !slices.Equal(l, []int{7}) || e != api.OK {
		t.Errorf("Grades = %v, error %d", l, e)
	}
	if s, h, n, e := Tune(least, []api.Slat{thinnest}, []api.Slat{thinnest}, 460); s != 0 || h != 40 || n != 1 || e != api.OK {
		t.Errorf("Tune = %d, %d, %d, error %d", s, h, n, e)
	}
}

// P1: whatever the numbers are, each function ends, and has a result or an error.
func TestAnyArguments(t *testing.T) {
	ends := []int{math.MinInt, -501, -1, 0, 1, 10, 2000, 20000, math.MaxInt}
	for _, a := range ends {
		for _, b := range ends {
			odd := api.Slat{Thick: span(a, b), Depth: span(b, a), Shift: span(a, a), Pitch: span(b, b)}
			jigs := []api.Jig{jig(), jig(grooves(a), play(b)), {Glue: span(a, b), Lead: span(b, a), Side: span(b, b), Height: span(a, a), Play: a, Grooves: b}}
			for _, j := range jigs {
				for _, s := range []api.Slat{odd, slatA(shift(a, b)), slatA(depth(a, b)), slatA()} {
					Off(j, s, slatB(), a)
					Closes(j, slatB(), s)
					Grades(j, s, slatB(), []int{a, b})
					Pair(j, []api.Slat{slatA(), s}, []api.Slat{slatB()}, a)
					Tune(j, []api.Slat{slatA(), s}, []api.Slat{slatB(), slatB()}, b)
				}
			}
		}
	}
}

// R4: no argument is changed, and no result shares memory with an argument or with another result.
func TestMemory(t *testing.T) {
	limits := []int{36, 37, 50}
	lower, upper := []api.Slat{slatA(), slatC(), slatC()}, []api.Slat{slatD(), slatB()}
	for range 2 {
		if got, e := Grades(jig(), lower[0], upper[1], limits); !slices.Equal(got, []int{0, 1, 1}) || e != api.OK {
			t.Errorf("Grades = %v, error %d", got, e)
		} else {
			clear(got)
		}
		if got, n, e := Pair(jig(), lower, upper, 37); !slices.Equal(got, []int{1, 0, -1}) || n != 6 || e != api.OK {
			t.Errorf("Pair = %v, %d, error %d", got, n, e)
		} else {
			clear(got)
		}
		if s, h, n, e := Tune(jig(), lower[:1], upper[1:], 30); s != 1 || h != -7 || n != 3 || e != api.OK {
			t.Errorf("Tune = %d, %d, %d, error %d", s, h, n, e)
		}
	}
	if !slices.Equal(limits, []int{36, 37, 50}) || !slices.Equal(lower, []api.Slat{slatA(), slatC(), slatC()}) || !slices.Equal(upper, []api.Slat{slatD(), slatB()}) {
		t.Errorf("arguments were changed: %v, %v, %v", limits, lower, upper)
	}
}
