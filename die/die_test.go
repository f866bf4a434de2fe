package die

import (
	"math"
	"slices"
	"testing"

	"pencilworks/api"
)

func span(lo, hi int) api.Span { return api.Span{Lo: lo, Hi: hi} }

func draw(length, lo, hi int) api.Draw { return api.Draw{Length: length, Wide: span(lo, hi)} }

// example returns the press of the chapter's examples.
func example() api.Press {
	return api.Press{Dies: []api.Die{{Wide: 2000, Wear: span(1, 2)}, {Wide: 2200, Wear: span(2, 3)}}, Shrink: span(90, 100), Change: 5}
}

// with returns the press of the examples with a change.
func with(change func(p *api.Press)) api.Press {
	p := example()
	change(&p)
	return p
}

// oneOf returns a press with one die, whose wear is known, as is what the mass shrinks.
func oneOf(wide, wear, shrink int) api.Press {
	return api.Press{Dies: []api.Die{{Wide: wide, Wear: span(wear, wear)}}, Shrink: span(shrink, shrink)}
}

// alike returns a press with some dies that are the die 0 of the examples.
func alike(dies, change int) api.Press {
	return with(func(p *api.Press) { p.Dies, p.Change = slices.Repeat(p.Dies[:1], dies), change })
}

// draws returns the draws of the examples, the last one with another least width.
func draws(lo int) []api.Draw {
	return []api.Draw{draw(40, 1800, 1900), draw(20, 1980, 2070), draw(30, lo, 2000)}
}

// P4.1: the chapter's examples, the rounding of both ends, and the ends of all numbers.
func TestWide(t *testing.T) {
	for _, c := range []struct {
		name      string
		p         api.Press
		die, used int
		want      api.Span
	}{
		{"example, new", example(), 0, 0, span(1800, 1820)},
		{"example, used", example(), 0, 50, span(1845, 1911)},
		{"example, the other die", example(), 1, 10, span(1998, 2030)},
		{"the other die, new", example(), 1, 0, span(1980, 2002)},
		{"what is known is exact", oneOf(2000, 1, 100), 0, 10, span(1809, 1809)},
		{"both ends rounded", oneOf(1999, 1, 100), 0, 0, span(1799, 1800)},
		{"a thousandth too much", oneOf(1, 0, 0), 0, 0, span(1, 1)},
		{"a thousandth less than one", oneOf(1, 0, 1), 0, 0, span(0, 1)},
		{"a thousandth more than an integer", oneOf(3, 1, 27), 0, 34, span(36, 37)},
		{"a thousandth less than an integer", oneOf(3, 1, 27), 0, 0, span(2, 3)},
		{"only the least wear and the greatest shrinkage make the least", with(func(p *api.Press) { p.Dies[0].Wear, p.Shrink = span(0, 200), span(0, 300) }), 0, 5, span(1400, 3000)},
		{"no wear", oneOf(2000, 0, 0), 0, 8000, span(2000, 2000)},
		{"as wide as can be", oneOf(20000, 200, 0), 0, 8000, span(1620000, 1620000)},
		{"as thin as can be", oneOf(1, 0, 300), 0, 8000, span(0, 1)},
		{"as much shrinkage as can be", oneOf(20000, 200, 300), 0, 8000, span(1134000, 1134000)},
		{"the last of four dies", with(func(p *api.Press) {
			p.Dies = append(p.Dies, api.Die{Wide: 50, Wear: span(1, 1)}, api.Die{Wide: 1000, Wear: span(3, 4)})
		}), 3, 100, span(1170, 1274)},
	} {
		if got, e := Wide(c.p, c.die, c.used); got != c.want || e != api.OK {
			t.Errorf("%s: Wide = %v, error %d, not %v", c.name, got, e, c.want)
		}
	}
}

// P4.2: the chapter's examples; both ends where they just are good, and where they just are not; none, one, and all.
func TestLast(t *testing.T) {
	slow := oneOf(2000, 0, 0)
	for _, c := range []struct {
		name     string
		p        api.Press
		die      int
		want     api.Span
		from, to int // none if from is -1
	}{
		{"example", example(), 0, span(1800, 1900), 0, 43},
		{"example, not from the beginning", example(), 0, span(1850, 2000), 56, 98},
		{"example, none", example(), 0, span(1850, 1855), -1, 0},
		{"the other die", example(), 1, span(1998, 2100), 10, 35},
		{"all", example(), 0, span(0, 20000), 0, 8000},
		{"just the first one", example(), 0, span(1800, 1820), 0, 0},
		{"too thin at once, and too thick at once", example(), 0, span(1801, 1819), -1, 0},
		{"too thin at first, and too thick at once", example(), 0, span(1801, 1820), -1, 0},
		{"too thick at once", example(), 0, span(0, 1819), -1, 0},
		{"too thick by a fraction at once", oneOf(1999, 1, 100), 0, span(0, 1799), -1, 0},
		{"too thin by a fraction at first", oneOf(1999, 1, 100), 0, span(1800, 2000), 1, 223},
		{"too thick by a fraction at last", oneOf(1999, 1, 100), 0, span(0, 1800), 0, 1},
		{"just one, in the middle", oneOf(1000, 1, 0), 0, span(1500, 1500), 500, 500},
		{"none between two", oneOf(1000, 2, 0), 0, span(1501, 1501), -1, 0},
		{"the last one alone", oneOf(1000, 1, 0), 0, span(9000, 20000), 8000, 8000},
		{"after the last one", oneOf(1000, 1, 0), 0, span(9001, 20000), -1, 0},
		{"no wear, just so", slow, 0, span(2000, 2000), 0, 8000},
		{"no wear, too thin", slow, 0, span(2001, 20000), -1, 0},
		{"no wear, too thick", slow, 0, span(0, 1999), -1, 0},
		{"of nothing", example(), 0, span(0, 0), -1, 0},
		{"of the most", oneOf(20000, 0, 0), 0, span(20000, 20000), 0, 8000},
		{"the wear may differ", with(func(p *api.Press) { p.Dies[0].Wear, p.Shrink = span(0, 2), span(0, 0) }), 0, span(2000, 2100), 0, 50},
		{"the shrinkage may differ", with(func(p *api.Press) { p.Dies[0].Wear, p.Shrink = span(1, 1), span(0, 100) }), 0, span(1809, 2060), 10, 60},
	} {
		e := api.OK
		if c.from < 0 {
			c.from, e = 0, api.ErrNone
		}
		if from, to, f := Last(c.p, c.die, c.want); from != c.from || to != c.to || f != e {
			t.Errorf("%s: Last = %d, %d, error %d, not %d, %d, error %d", c.name, from, to, f, c.from, c.to, e)
		}
	}
}

// P4.3: the chapter's examples; each error, and which comes first; draws at whose beginning or end a lead just is as wide as asked for, and just is not.
func TestFollow(t *testing.T) {
	one := func(length, lo, hi int) []api.Draw { return []api.Draw{draw(length, lo, hi)} }
	eight := slices.Repeat(one(1000, 0, 20000), 8)
	for _, c := range []struct {
		name  string
		p     api.Press
		l     []api.Draw
		plan  []int
		used  []int
		index int
		e     api.Errno
	}{
		{"example, the last lead too thin", example(), draws(1850), []int{0, 1, 0}, nil, 2, api.ErrRefuse},
		{"example, the last lead too thick", example(), draws(1850), []int{0, 1, 1}, nil, 2, api.ErrRefuse},
		{"example, too thin at once", example(), draws(1850), []int{0, 0, 0}, nil, 1, api.ErrRefuse},
		{"example, no die for the last draw", example(), draws(1850), []int{0, 1}, nil, 2, api.ErrNone},
		{"example, good", example(), draws(1830), []int{0, 1, 0}, []int{70, 20}, 3, api.OK},
		{"the last draw just thick enough", example(), draws(1836), []int{0, 1, 0}, []int{70, 20}, 3, api.OK},
		{"the last draw just too thin", example(), draws(1837), []int{0, 1, 0}, nil, 2, api.ErrRefuse},

		{"no draws", example(), nil, nil, []int{0, 0}, 0, api.OK},
		{"no draws, but lists", example(), []api.Draw{}, []int{}, []int{0, 0}, 0, api.OK},
		{"no draws, but a plan", example(), nil, []int{0}, nil, 0, api.ErrRange},
		{"no draws, but a plan of what is no die", example(), nil, []int{7}, nil, 0, api.ErrRange},
		{"no plan", example(), draws(1830), nil, nil, 0, api.ErrNone},
		{"one die too many", example(), draws(1830), []int{0, 1, 0, 0}, nil, 3, api.ErrRange},
		{"many dies too many, that are none", example(), draws(1830), slices.Concat([]int{0, 1, 0}, slices.Repeat([]int{-1}, 100)), nil, 3, api.ErrRange},
		{"one die too many, after one that does not do", example(), draws(1850), []int{0, 1, 0, 0}, nil, 2, api.ErrRefuse},
		{"a die too many in number", example(), draws(1830), []int{0, 2, 0}, nil, 1, api.ErrRange},
		{"a die below 0", example(), draws(1830), []int{-1, 1, 0}, nil, 0, api.ErrRange},
		{"what is no die comes after one that does not do", example(), draws(1830), []int{1, 2, 0}, nil, 0, api.ErrRefuse},
		{"what is no die comes before one that does not do", example(), draws(1830), []int{0, 2, 1}, nil, 1, api.ErrRange},
		{"no die comes after one that does not do", example(), draws(1830), []int{0, 0}, nil, 1, api.ErrRefuse},

		{"just thick enough at the beginning", oneOf(2000, 1, 0), one(10, 2000, 3000), []int{0}, []int{10}, 1, api.OK},
		{"too thin at the beginning", oneOf(2000, 1, 0), one(10, 2001, 3000), []int{0}, nil, 0, api.ErrRefuse},
		{"too thin at the beginning by a fraction", oneOf(1999, 1, 100), one(10, 1800, 3000), []int{0}, nil, 0, api.ErrRefuse},
		{"too thin in one truth of the shrinkage", with(func(p *api.Press) { p.Shrink.Hi = 101 }), draws(1830), []int{0, 1, 0}, nil, 0, api.ErrRefuse},
		{"just thin enough at the end", oneOf(2000, 1, 0), one(10, 0, 2010), []int{0}, []int{10}, 1, api.OK},
		{"too thick at the end", oneOf(2000, 1, 0), one(10, 0, 2009), []int{0}, nil, 0, api.ErrRefuse},
		{"too thick at the end by a fraction", oneOf(1999, 1, 100), one(10, 0, 1808), []int{0}, nil, 0, api.ErrRefuse},
		{"just thin enough, with a fraction", oneOf(1999, 1, 100), one(10, 0, 1809), []int{0}, []int{10}, 1, api.OK},
		{"too thick in one truth of the wear", with(func(p *api.Press) { p.Dies[0].Wear.Hi = 4 }), one(40, 0, 1900), []int{0}, nil, 0, api.ErrRefuse},
		{"as long as can be", example(), one(43, 1800, 1900), []int{0}, []int{43, 0}, 1, api.OK},
		{"a hundred too long", example(), one(44, 1800, 1900), []int{0}, nil, 0, api.ErrRefuse},
		{"a die that wears with each draw", oneOf(2000, 1, 0), []api.Draw{draw(10, 2000, 2010), draw(10, 2010, 2020), draw(5, 2020, 2025)}, []int{0, 0, 0}, []int{25}, 3, api.OK},
		{"a die that does not wear with the draws of another one", alike(2, 0), []api.Draw{draw(43, 1800, 1900), draw(43, 1800, 1900)}, []int{1, 0}, []int{43, 43}, 2, api.OK},
		{"a die that is worn out", alike(2, 0), []api.Draw{draw(43, 1800, 1900), draw(1, 1800, 1900)}, []int{1, 1}, nil, 1, api.ErrRefuse},
		{"as many draws, dies and hundreds as can be", alike(4, 0), slices.Repeat(one(1000, 0, 20000), 8), []int{0, 1, 2, 3, 3, 3, 3, 3}, []int{1000, 1000, 1000, 5000}, 8, api.OK},
		{"one die for all", oneOf(20000, 0, 0), eight, make([]int, 8), []int{8000}, 8, api.OK},
		{"nine dies for eight draws", oneOf(20000, 0, 0), eight, make([]int, 9), nil, 8, api.ErrRange},
	} {
		if used, index, e := Follow(c.p, c.l, c.plan); !slices.Equal(used, c.used) || index != c.index || e != c.e {
			t.Errorf("%s: Follow = %v, %d, error %d, not %v, %d, error %d", c.name, used, index, e, c.used, c.index, c.e)
		}
	}
}

// P4.4: the chapter's examples; what changes and dies cost, and which of several plans is first.
func TestPlan(t *testing.T) {
	short := draw(20, 1800, 1900) // a die of the examples does for two of them
	easy := draw(1, 0, 20000)
	wide := draw(1, 1980, 2300) // for the die 1 only
	thin := draw(1, 1700, 1900) // for the die 0 only
	change := func(n int) api.Press { return with(func(p *api.Press) { p.Change = n }) }
	for _, c := range []struct {
		name string
		p    api.Press
		l    []api.Draw
		plan []int
		cost int
		e    api.Errno
	}{
		{"example", example(), draws(1830), []int{0, 1, 0}, 11, api.OK},
		{"example, the first two", example(), draws(1830)[:2], []int{0, 1}, 6, api.OK},
		{"example, none", example(), draws(1850), nil, 0, api.ErrNone},
		{"no draws", example(), nil, nil, 0, api.OK},
		{"no draws, but a list", example(), []api.Draw{}, nil, 0, api.OK},
		{"one draw", example(), []api.Draw{easy}, []int{0}, 0, api.OK},
		{"no change for the first draw", example(), []api.Draw{wide}, []int{1}, 1, api.OK},
		{"none for the first draw", example(), []api.Draw{draw(1, 2300, 2301), easy}, nil, 0, api.ErrNone},
		{"none for the last draw", example(), []api.Draw{easy, draw(1, 2300, 2301)}, nil, 0, api.ErrNone},
		{"a change is dear", change(5), []api.Draw{wide, easy}, []int{1, 1}, 2, api.OK},
		{"a change is cheap", change(0), []api.Draw{wide, easy}, []int{1, 0}, 1, api.OK},
		{"a change costs what the die does, and the lesser die comes first", change(1), []api.Draw{wide, easy}, []int{1, 0}, 2, api.OK},
		{"the same, the other way round", change(1), []api.Draw{easy, wide}, []int{0, 1}, 2, api.OK},
		{"a change that is dear, the other way round", change(2), []api.Draw{easy, wide}, []int{1, 1}, 2, api.OK},
		{"changes that must be", change(10000), []api.Draw{thin, wide, thin, wide, thin, wide, thin, wide}, []int{0, 1, 0, 1, 0, 1, 0, 1}, 70004, api.OK},
		{"a die that is kept for what comes last", change(3), []api.Draw{wide, easy, easy, easy, wide}, []int{1, 1, 1, 1, 1}, 5, api.OK},
		{"a die that is not", change(1), []api.Draw{wide, easy, easy, easy, wide}, []int{1, 0, 0, 0, 1}, 4, api.OK},

		{"two draws wear a die out", alike(2, 5), []api.Draw{short, short, short}, []int{0, 0, 1}, 6, api.OK},
		{"two draws wear a die out, and a change costs nothing", alike(2, 0), []api.Draw{short, short, short}, []int{0, 0, 1}, 1, api.OK},
		{"as many as two dies do for", alike(2, 5), slices.Repeat([]api.Draw{short}, 4), []int{0, 0, 1, 1}, 7, api.OK},
		{"one more", alike(2, 5), slices.Repeat([]api.Draw{short}, 5), nil, 0, api.ErrNone},
		{"as many draws and dies as can be", alike(4, 10), slices.Repeat([]api.Draw{short}, 8), []int{0, 0, 1, 1, 2, 2, 3, 3}, 42, api.OK},
		{"one draw is longer", alike(4, 10), append(slices.Repeat([]api.Draw{short}, 7), draw(24, 1800, 1900)), nil, 0, api.ErrNone},
		{"one draw of two is longer", alike(2, 10), []api.Draw{short, draw(24, 1800, 1900), short}, []int{0, 1, 0}, 21, api.OK},
		{"a die is spared for a later draw", alike(2, 10), []api.Draw{draw(20, 1800, 1900), draw(43, 1800, 1900)}, []int{0, 1}, 11, api.OK},
		{"a die must be worn first", example(), []api.Draw{draw(40, 0, 3000), draw(1, 1830, 1900)}, []int{0, 0}, 0, api.OK},
		{"a die must not be worn first", change(0), []api.Draw{draw(40, 0, 3000), draw(1, 0, 1830)}, []int{1, 0}, 1, api.OK},
		{"a dear plan comes first, a cheap one last", with(func(p *api.Press) { p.Change = 100 }), []api.Draw{easy, wide, wide, wide}, []int{1, 1, 1, 1}, 4, api.OK},
		{"the only die", oneOf(2000, 0, 0), slices.Repeat([]api.Draw{easy}, 8), make([]int, 8), 0, api.OK},
		{"the last die only", with(func(p *api.Press) {
			p.Dies = []api.Die{{Wide: 1}, {Wide: 2}, {Wide: 3}, {Wide: 2200}}
		}), slices.Repeat([]api.Draw{wide}, 8), slices.Repeat([]int{3}, 8), 24, api.OK},
		{"a further die is never worth it", alike(4, 0), slices.Repeat([]api.Draw{easy}, 8), make([]int, 8), 0, api.OK},
	} {
		if plan, cost, e := Plan(c.p, c.l); !slices.Equal(plan, c.plan) || cost != c.cost || e != c.e {
			t.Errorf("%s: Plan = %v, %d, error %d, not %v, %d, error %d", c.name, plan, cost, e, c.plan, c.cost, c.e)
		}
	}
}

// wrongSpans returns spans that are not within 0 and a bound.
func wrongSpans(most int) []api.Span {
	return []api.Span{span(-1, most), span(0, most+1), span(1, 0), span(most+1, most+1), span(-1, -1), span(math.MinInt, math.MaxInt), span(math.MaxInt, math.MinInt)}
}

// wrongNumbers returns numbers that are not from one to another one.
func wrongNumbers(least, most int) []int {
	return []int{least - 1, most + 1, math.MinInt, math.MaxInt}
}

// wrongPresses returns presses that are not valid.
func wrongPresses() []api.Press {
	l := []api.Press{{}, with(func(p *api.Press) { p.Dies = nil }), with(func(p *api.Press) { p.Dies = []api.Die{} }), alike(5, 0), alike(100, 0)}
	for i := range example().Dies {
		for _, n := range wrongNumbers(1, api.MaxWide) {
			l = append(l, with(func(p *api.Press) { p.Dies[i].Wide = n }))
		}
		for _, s := range wrongSpans(api.MaxWear) {
			l = append(l, with(func(p *api.Press) { p.Dies[i].Wear = s }))
		}
	}
	for _, s := range wrongSpans(api.MaxShrink) {
		l = append(l, with(func(p *api.Press) { p.Shrink = s }))
	}
	for _, n := range wrongNumbers(0, api.MaxChange) {
		l = append(l, with(func(p *api.Press) { p.Change = n }))
	}
	return l
}

// wrongDraws returns draws that are not valid.
func wrongDraws() [][]api.Draw {
	l := [][]api.Draw{{{}}, slices.Repeat(draws(1830), 3), slices.Repeat(draws(1830), 100), make([]api.Draw, 9)}
	for i := range draws(1830) {
		for _, n := range wrongNumbers(1, api.MaxLength) {
			wrong := draws(1830)
			wrong[i].Length = n
			l = append(l, wrong)
		}
		for _, s := range wrongSpans(api.MaxWide) {
			wrong := draws(1830)
			wrong[i].Wide = s
			l = append(l, wrong)
		}
	}
	return l
}

// expectDie checks that the functions that take a die return an error, and nothing else.
func expectDie(t *testing.T, want api.Errno, p api.Press, die, used int, wide api.Span) {
	t.Helper()
	if s, e := Wide(p, die, used); e != want || s != (api.Span{}) {
		t.Errorf("Wide(%v, %d, %d) = %v, error %d", p, die, used, s, e)
	}
	if from, to, e := Last(p, die, wide); e != want || from != 0 || to != 0 {
		t.Errorf("Last(%v, %d, %v) = %d, %d, error %d", p, die, wide, from, to, e)
	}
}

// expectDraws checks that the functions that take draws return an error, and nothing else.
func expectDraws(t *testing.T, want api.Errno, p api.Press, l []api.Draw, plan []int) {
	t.Helper()
	if used, index, e := Follow(p, l, plan); e != want || len(used) != 0 || index != 0 {
		t.Errorf("Follow(%v, %v, %v) = %v, %d, error %d", p, l, plan, used, index, e)
	}
	if plan, cost, e := Plan(p, l); e != want || len(plan) != 0 || cost != 0 {
		t.Errorf("Plan(%v, %v) = %v, %d, error %d", p, l, plan, cost, e)
	}
}

// R1: ErrArg for the press comes before all other errors.
func TestWrongPresses(t *testing.T) {
	for _, p := range wrongPresses() {
		for _, n := range []int{-1, 0, 1, 9, 8001} {
			expectDie(t, api.ErrArg, p, n, n, span(1800, 1900))
			expectDie(t, api.ErrArg, p, n, n, span(1, 0))
		}
		for _, plan := range [][]int{nil, {0, 1, 0}, {-1}} {
			for _, l := range [][]api.Draw{nil, draws(1830), draws(1850), {{}}, make([]api.Draw, 9)} {
				expectDraws(t, api.ErrArg, p, l, plan)
			}
		}
	}
}

// R1: ErrRange for the draws comes before what the plan is.
func TestWrongDraws(t *testing.T) {
	for _, l := range wrongDraws() {
		for _, plan := range [][]int{nil, {0, 1, 0}, {0, 0, 0}, {-1}, make([]int, 10)} {
			expectDraws(t, api.ErrRange, example(), l, plan)
		}
	}
}

// R1: ErrRange for each other argument, before ErrNone.
func TestRanges(t *testing.T) {
	never := span(0, 1)
	for _, n := range wrongNumbers(0, 1) {
		expectDie(t, api.ErrRange, example(), n, 0, never)
	}
	for _, n := range wrongNumbers(0, 8000) {
		if s, e := Wide(example(), 0, n); e != api.ErrRange || s != (api.Span{}) {
			t.Errorf("Wide after %d = %v, error %d", n, s, e)
		}
	}
	for _, s := range wrongSpans(api.MaxWide) {
		if from, to, e := Last(example(), 0, s); e != api.ErrRange || from != 0 || to != 0 {
			t.Errorf("Last of %v = %d, %d, error %d", s, from, to, e)
		}
	}
	if from, to, e := Last(example(), 1, never); e != api.ErrNone || from != 0 || to != 0 {
		t.Errorf("Last of %v = %d, %d, error %d", never, from, to, e)
	}
}

// R7: each number may be at its limit.
func TestLimits(t *testing.T) {
	most := api.Press{Dies: slices.Repeat([]api.Die{{Wide: api.MaxWide, Wear: span(api.MaxWear, api.MaxWear)}}, api.MaxDies), Shrink: span(api.MaxShrink, api.MaxShrink), Change: api.MaxChange}
	least := api.Press{Dies: []api.Die{{Wide: 1}}}
	long := slices.Repeat([]api.Draw{draw(api.MaxLength, 0, api.MaxWide)}, api.MaxDraws)
	short := slices.Repeat([]api.Draw{draw(1, 0, 0)}, api.MaxDraws)
	if s, e := Wide(most, 3, 8000); s != span(1134000, 1134000) || e != api.OK {
		t.Errorf("Wide = %v, error %d", s, e)
	}
	if from, to, e := Last(most, 3, span(0, api.MaxWide)); from != 0 || to != 42 || e != api.OK {
		t.Errorf("Last = %d, %d, error %d", from, to, e)
	}
	if from, to, e := Last(least, 0, span(api.MaxWide, api.MaxWide)); from != 0 || to != 0 || e != api.ErrNone {
		t.Errorf("Last = %d, %d, error %d", from, to, e)
	}
	if plan, cost, e := Plan(least, long); !slices.Equal(plan, make([]int, 8)) || cost != 0 || e != api.OK {
		t.Errorf("Plan = %v, %d, error %d", plan, cost, e)
	}
	for _, l := range [][]api.Draw{long, short} {
		if used, index, e := Follow(most, l, make([]int, 8)); len(used) != 0 || index != 0 || e != api.ErrRefuse {
			t.Errorf("Follow = %v, %d, error %d", used, index, e)
		}
		if plan, cost, e := Plan(most, l); len(plan) != 0 || cost != 0 || e != api.ErrNone {
			t.Errorf("Plan = %v, %d, error %d", plan, cost, e)
		}
	}
}

// P1: whatever the numbers are, each function ends, and has a result or an error.
func TestAnyArguments(t *testing.T) {
	ends := []int{math.MinInt, -1, 0, 1, 50, 2000, 20000, math.MaxInt}
	for _, a := range ends {
		for _, b := range ends {
			odd := with(func(p *api.Press) {
				p.Dies[1] = api.Die{Wide: a, Wear: span(b, a)}
				p.Shrink, p.Change = span(a, b), b
			})
			for _, p := range []api.Press{odd, example(), alike(4, 1)} {
				for _, l := range [][]api.Draw{{draw(a, b, a)}, {draw(1, 0, 20000), draw(b, a, b)}, draws(1830)} {
					Wide(p, a, b)
					Last(p, b, span(a, b))
					Last(p, 1, span(b, a))
					Follow(p, l, []int{a, b})
					Follow(p, l, []int{0, b, a})
					Plan(p, l)
				}
			}
		}
	}
}

// P4.5, R4: no argument is changed, and no result shares memory with an argument or with another result.
func TestMemory(t *testing.T) {
	p, l, plan := example(), draws(1830), []int{0, 1, 0}
	for range 2 {
		if got, n, e := Follow(p, l, plan); !slices.Equal(got, []int{70, 20}) || n != 3 || e != api.OK {
			t.Errorf("Follow = %v, %d, error %d", got, n, e)
		} else {
			clear(got)
		}
		if got, cost, e := Plan(p, l); !slices.Equal(got, []int{0, 1, 0}) || cost != 11 || e != api.OK {
			t.Errorf("Plan = %v, %d, error %d", got, cost, e)
		} else {
			got[0] = 77
		}
		Wide(p, 1, 10)
		Last(p, 1, span(1998, 2100))
	}
	if !slices.Equal(p.Dies, example().Dies) || p.Shrink != example().Shrink || p.Change != 5 || !slices.Equal(l, draws(1830)) || !slices.Equal(plan, []int{0, 1, 0}) {
		t.Errorf("arguments were changed: %v, %v, %v", p, l, plan)
	}
}
