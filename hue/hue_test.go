package hue

import (
	"math"
	"slices"
	"testing"

	"pencilworks/api"
)

func span(lo, hi int) api.Span { return api.Span{Lo: lo, Hi: hi} }

// mill returns the mill of the chapter's examples.
func mill() api.Mill { return millOf(span(20, 30), span(100, 150), 40) }

func millOf(run, wash api.Span, price int) api.Mill {
	return api.Mill{Run: run, Wash: wash, Price: price}
}

// price returns the mill of the examples with another price.
func price(n int) api.Mill { return millOf(span(20, 30), span(100, 150), n) }

// weak returns the mill of the examples, in which a wash takes away at least so much.
func weak(n int) api.Mill { return millOf(span(20, 30), span(n, 150), 40) }

// hues returns the colours of the examples.
func hues() []api.Hue {
	return huesOf(60, 80, 20, 30, 150, 180, 100, 120, 500, 520, 200, 240, 900, 950, 600, 700)
}

// huesOf returns colours, by both bounds of the depth and of what is hidden for each.
func huesOf(l ...int) (all []api.Hue) {
	for i := 0; i < len(l); i += 4 {
		all = append(all, api.Hue{Depth: span(l[i], l[i+1]), Hide: span(l[i+2], l[i+3])})
	}
	return all
}

// exact returns colours whose depths and what they hide are known.
func exact(l ...int) (all []api.Hue) {
	for i := 0; i < len(l); i += 2 {
		all = append(all, huesOf(l[i], l[i], l[i+1], l[i+1])...)
	}
	return all
}

// plan returns turns, by a colour and washes for each.
func plan(l ...int) (all []api.Turn) {
	for i := 0; i < len(l); i += 2 {
		all = append(all, api.Turn{Hue: l[i], Washes: l[i+1]})
	}
	return all
}

// spans returns spans, by both bounds of each.
func spans(l ...int) (all []api.Span) {
	for i := 0; i < len(l); i += 2 {
		all = append(all, span(l[i], l[i+1]))
	}
	return all
}

// P8.1: the chapter's examples; what takes stains away, and which of several is greatest.
func TestStains(t *testing.T) {
	run, wash := millOf(span(5, 7), span(0, 0), 0), millOf(span(0, 0), span(5, 7), 0)
	for _, c := range []struct {
		name string
		m    api.Mill
		l    []api.Hue
		plan []api.Turn
		want []api.Span
	}{
		{"example, without washes", mill(), hues(), plan(0, 0, 1, 0, 2, 0, 3, 0), spans(0, 0, 60, 80, 150, 180, 500, 520)},
		{"example, with washes", mill(), hues(), plan(0, 0, 1, 0, 2, 1, 3, 1), spans(0, 0, 60, 80, 0, 80, 350, 420)},
		{"no turns", mill(), hues(), nil, nil},
		{"an empty plan", mill(), hues(), plan(), nil},
		{"no colours", mill(), nil, nil, nil},
		{"one turn", mill(), hues(), plan(3, 0), spans(0, 0)},
		{"one turn after washes", mill(), hues(), plan(3, 2), spans(0, 0)},
		{"the next turn, without a run between", run, huesOf(100, 110, 0, 0), plan(0, 0, 0, 0), spans(0, 0, 100, 110)},
		{"a run for each turn between", run, huesOf(100, 110, 0, 0, 3, 4, 0, 0), plan(0, 0, 1, 0, 1, 0, 1, 0), spans(0, 0, 100, 110, 93, 105, 86, 100)},
		{"the washes before the later turn", wash, huesOf(100, 110, 0, 0, 3, 4, 0, 0), plan(0, 0, 1, 2), spans(0, 0, 86, 100)},
		{"the washes before turns between", wash, huesOf(100, 110, 0, 0, 3, 4, 0, 0), plan(0, 0, 1, 2, 1, 0, 1, 1), spans(0, 0, 86, 100, 86, 100, 79, 95)},
		{"not the washes before the earlier turn", wash, huesOf(100, 110, 0, 0, 3, 4, 0, 0), plan(0, 2, 1, 0), spans(0, 0, 100, 110)},
		{"never less than 0", wash, huesOf(3, 6, 0, 0), plan(0, 0, 0, 1, 0, 2), spans(0, 0, 0, 1, 0, 0)},
		{"just 0", wash, huesOf(7, 10, 0, 0), plan(0, 0, 0, 1, 0, 2), spans(0, 0, 0, 5, 0, 0)},
		{"of the earlier one of two", run, huesOf(100, 110, 0, 0, 20, 30, 0, 0), plan(0, 0, 1, 0, 1, 0), spans(0, 0, 100, 110, 93, 105)},
		{"of the later one of two", run, huesOf(100, 110, 0, 0, 20, 30, 0, 0), plan(1, 0, 0, 0, 1, 0), spans(0, 0, 20, 30, 100, 110)},
		{"the ends of different ones", run, huesOf(100, 300, 0, 0, 150, 160, 0, 0), plan(0, 0, 1, 0, 1, 0), spans(0, 0, 100, 300, 150, 295)},
		{"what is hidden makes no difference", run, huesOf(100, 110, 0, 10000), plan(0, 0, 0, 0), spans(0, 0, 100, 110)},
		{"what is deepest stays deepest", millOf(span(0, 0), span(0, 0), 0), exact(10000, 0, 5, 0), plan(0, 2, 1, 2, 1, 2, 1, 0), spans(0, 0, 10000, 10000, 10000, 10000, 10000, 10000)},
		{"all is taken away", millOf(span(10000, 10000), span(10000, 10000), 10000), exact(10000, 0), plan(0, 2, 0, 0, 0, 1), spans(0, 0, 10000, 10000, 0, 0)},
		{"the most turns", millOf(span(1, 2), span(0, 0), 0), exact(50, 0, 0, 0), append(plan(0, 0), slices.Repeat(plan(1, 0), 11)...), spans(0, 0, 50, 50, 48, 49, 46, 48, 44, 47, 42, 46, 40, 45, 38, 44, 36, 43, 34, 42, 32, 41, 30, 40)},
	} {
		if l, e := Stains(c.m, c.l, c.plan); !slices.Equal(l, c.want) || e != api.OK {
			t.Errorf("%s: Stains = %v, error %d, not %v", c.name, l, e, c.want)
		}
	}
}

// P8.2: the chapter's examples; stains that just show and just do not, and the first one of several that show.
func TestShows(t *testing.T) {
	still := millOf(span(0, 0), span(5, 7), 0)
	for _, c := range []struct {
		name     string
		m        api.Mill
		l        []api.Hue
		plan     []api.Turn
		turn, by int
		e        api.Errno
	}{
		{"example 0 1 2 3", mill(), hues(), plan(0, 0, 1, 0, 2, 0, 3, 0), 0, 0, api.ErrNone},
		{"example 0 2 1", mill(), hues(), plan(0, 0, 2, 0, 1, 0), 2, 1, api.OK},
		{"example 0 2, 1 after two washes", mill(), hues(), plan(0, 0, 2, 0, 1, 2), 2, 1, api.OK},
		{"no turns", mill(), hues(), nil, 0, 0, api.ErrNone},
		{"no colours", mill(), nil, nil, 0, 0, api.ErrNone},
		{"nothing shows in the first turn", mill(), exact(100, 0), plan(0, 0), 0, 0, api.ErrNone},
		{"what is not deep does not show where nothing is hidden", still, exact(0, 0), plan(0, 0, 0, 0, 0, 0), 0, 0, api.ErrNone},
		{"the greatest stain is just hidden by the least", still, huesOf(0, 50, 50, 90), plan(0, 0, 0, 0), 0, 0, api.ErrNone},
		{"the greatest stain just shows where the least is hidden", still, huesOf(0, 51, 50, 90), plan(0, 0, 0, 0), 1, 0, api.OK},
		{"just washed", still, huesOf(0, 60, 50, 90), plan(0, 0, 0, 2), 0, 0, api.ErrNone},
		{"just not washed", still, huesOf(0, 61, 50, 90), plan(0, 0, 0, 2), 1, 0, api.OK},
		{"just run", millOf(span(3, 9), span(0, 0), 0), huesOf(53, 53, 0, 0, 0, 0, 60, 60, 0, 0, 50, 50), plan(0, 0, 1, 0, 2, 0), 0, 0, api.ErrNone},
		{"just not run", millOf(span(3, 9), span(0, 0), 0), huesOf(54, 54, 0, 0, 0, 0, 60, 60, 0, 0, 50, 50), plan(0, 0, 1, 0, 2, 0), 2, 0, api.OK},
		{"by the first one, not by the deepest one", still, exact(60, 100, 80, 100, 0, 50), plan(0, 0, 1, 0, 2, 0), 2, 0, api.OK},
		{"by the second one, as the first one is hidden", still, exact(50, 100, 51, 100, 0, 50), plan(0, 0, 1, 0, 2, 0), 2, 1, api.OK},
		{"in the first turn, not in that with the deepest stain", still, exact(60, 55, 80, 100, 0, 0), plan(0, 0, 0, 0, 1, 0, 2, 0), 1, 0, api.OK},
		{"in itself", mill(), hues(), plan(1, 0, 1, 0), 1, 0, api.OK},
		{"in the last of the most turns", still, exact(10, 20, 30, 20), append(slices.Repeat(plan(0, 0), 10), plan(1, 0, 0, 1)...), 11, 10, api.OK},
	} {
		if turn, by, e := Shows(c.m, c.l, c.plan); turn != c.turn || by != c.by || e != c.e {
			t.Errorf("%s: Shows = %d, %d, error %d, not %d, %d, error %d", c.name, turn, by, e, c.turn, c.by, c.e)
		}
	}
}

// P8.3: the chapter's examples; washes that are just enough, also more than a plan can have, and none that are.
func TestWash(t *testing.T) {
	for _, c := range []struct {
		name             string
		m                api.Mill
		l                []api.Hue
		first, second, n int
		e                api.Errno
	}{
		{"example 2 and 1", mill(), hues(), 2, 1, 5, api.OK},
		{"example 2 and 0", mill(), hues(), 2, 0, 5, api.OK},
		{"example 0 and 1", mill(), hues(), 0, 1, 0, api.OK},
		{"the same colour", mill(), hues(), 0, 0, 1, api.OK},
		{"just hidden", mill(), huesOf(0, 50, 50, 90), 0, 0, 0, api.OK},
		{"just not hidden", mill(), huesOf(0, 51, 50, 90), 0, 0, 1, api.OK},
		{"just washed", mill(), huesOf(0, 250, 50, 90), 0, 0, 2, api.OK},
		{"just not washed", mill(), huesOf(0, 251, 50, 90), 0, 0, 3, api.OK},
		{"hidden by far", mill(), exact(0, 10000), 0, 0, 0, api.OK},
		{"a run makes no difference", millOf(span(10000, 10000), span(100, 100), 0), exact(500, 0), 0, 0, 5, api.OK},
		{"the most washes", weak(1), exact(10000, 0), 0, 0, 10000, api.OK},
		{"one wash", millOf(span(0, 0), span(10000, 10000), 0), exact(10000, 0), 0, 0, 1, api.OK},
		{"washes that may take nothing away", weak(0), hues(), 2, 1, 0, api.ErrNone},
		{"washes that may take nothing away, just not hidden", weak(0), exact(1, 0), 0, 0, 0, api.ErrNone},
		{"washes that may take nothing away, just hidden", weak(0), exact(1, 1), 0, 0, 0, api.OK},
	} {
		if n, e := Wash(c.m, c.l, c.first, c.second); n != c.n || e != c.e {
			t.Errorf("%s: Wash = %d, error %d, not %d, error %d", c.name, n, e, c.n, c.e)
		}
	}
}

// P8.4: the chapter's example; what costs least, which of several plans is first, and colours without a whole plan.
func TestBest(t *testing.T) {
	free := millOf(span(0, 0), span(100, 100), 0)
	for _, c := range []struct {
		name string
		m    api.Mill
		l    []api.Hue
		plan []api.Turn
		cost int
		e    api.Errno
	}{
		{"example", mill(), hues(), plan(0, 0, 1, 1, 2, 2, 3, 2), 520, api.OK},
		{"no colours", mill(), nil, nil, 0, api.OK},
		{"an empty list", mill(), []api.Hue{}, nil, 0, api.OK},
		{"one colour", mill(), exact(10000, 0), plan(0, 0), 0, api.OK},
		{"one colour, and washes that cost nothing", free, exact(10000, 0), plan(0, 0), 0, api.OK},
		{"a wash costs less than the stain", price(79), hues()[:2], plan(0, 0, 1, 1), 79, api.OK},
		{"a wash costs as much as the stain", price(80), hues()[:2], plan(0, 0, 1, 0), 80, api.OK},
		{"a wash costs more than the stain", price(81), hues()[:2], plan(0, 0, 1, 0), 80, api.OK},
		{"a wash costs nothing", free, hues()[:2], plan(0, 0, 1, 1), 0, api.OK},
		{"a wash that costs nothing, and takes nothing away", millOf(span(0, 0), span(0, 100), 0), exact(10, 20, 10, 20), plan(0, 0, 1, 0), 10, api.OK},
		{"a wash that it must have", price(10000), exact(100, 99, 100, 99), plan(0, 0, 1, 1), 10000, api.OK},
		{"two washes that it must have", price(10000), exact(101, 0, 101, 0), plan(0, 0, 1, 2), 20000, api.OK},
		{"two washes that are just enough", mill(), exact(200, 0, 200, 0), plan(0, 0, 1, 2), 80, api.OK},
		{"two washes that are just not enough", mill(), exact(201, 0, 201, 0), nil, 0, api.ErrNone},
		{"it could show, although it need not", weak(99), huesOf(0, 200, 0, 50, 0, 200, 0, 50), nil, 0, api.ErrNone},
		{"two washes take away less than the second one hides", weak(0), exact(1, 0, 1, 0), nil, 0, api.ErrNone},
		{"one of two colours always shows, also after another one", mill(), exact(900, 0, 0, 900, 900, 0), nil, 0, api.ErrNone},
		{"one of two colours shows, but not after another one", mill(), exact(300, 0, 0, 500, 300, 0), plan(0, 0, 1, 2, 2, 1), 220, api.OK},
		{"the pale one first, whatever its number", mill(), exact(500, 500, 100, 0), plan(1, 0, 0, 1), 40, api.OK},
		{"the dark one first, as it can be washed for less", millOf(span(0, 0), span(500, 500), 1), exact(400, 0, 300, 0), plan(0, 0, 1, 1), 1, api.OK},
		{"a run makes the stain just pale enough", millOf(span(40, 50), span(0, 0), 5), exact(60, 60, 0, 1000, 100, 10), plan(2, 0, 1, 0, 0, 0), 160, api.OK},
		{"a run makes the stain just not pale enough", millOf(span(40, 50), span(0, 0), 5), exact(60, 60, 0, 1000, 101, 10), nil, 0, api.ErrNone},
		{"two runs make the stain just pale enough", millOf(span(40, 50), span(0, 0), 5), exact(100, 20, 0, 1000, 100, 10, 0, 1000), plan(2, 0, 1, 0, 3, 0, 0, 0), 180, api.OK},
		{"all equal", mill(), slices.Repeat(exact(0, 0), 6), plan(0, 0, 1, 0, 2, 0, 3, 0, 4, 0, 5, 0), 0, api.OK},
		{"all equal, and washes that cost nothing", free, slices.Repeat(exact(0, 0), 6), plan(0, 0, 1, 0, 2, 0, 3, 0, 4, 0, 5, 0), 0, api.OK},
		{"all equal, and washed", mill(), slices.Repeat(exact(150, 60), 6), plan(0, 0, 1, 2, 2, 2, 3, 2, 4, 2, 5, 2), 400, api.OK},
		{"the greatest stains count, and the least that is hidden", millOf(span(0, 9), span(0, 9), 9), huesOf(1, 5, 5, 9, 0, 6, 5, 9), plan(0, 0, 1, 0), 5, api.OK},
		{"all at their ends", millOf(span(0, 10000), span(0, 10000), 10000), slices.Repeat(exact(10000, 10000), 6), plan(0, 0, 1, 0, 2, 0, 3, 0, 4, 0, 5, 0), 50000, api.OK},
	} {
		if l, n, e := Best(c.m, c.l); !slices.Equal(l, c.plan) || n != c.cost || e != c.e {
			t.Errorf("%s: Best = %v, %d, error %d, not %v, %d, error %d", c.name, l, n, e, c.plan, c.cost, c.e)
		}
	}
}

// wrongNumbers returns numbers that are not from one to another one.
func wrongNumbers(least, most int) []int {
	return []int{least - 1, most + 1, math.MinInt, math.MaxInt}
}

// wrongSpans returns spans that are not valid within 0 to MaxDepth.
func wrongSpans() []api.Span {
	return []api.Span{span(-1, 0), span(-1, -1), span(2, 1), span(0, 10001), span(10001, 10001), span(math.MinInt, 5), span(5, math.MaxInt), span(math.MaxInt, math.MinInt)}
}

// expectErrors checks that all functions return an error, and nothing else, for a plan and two colours. Best takes neither, so that it is asked only for ErrArg.
func expectErrors(t *testing.T, m api.Mill, l []api.Hue, plan []api.Turn, first, second int, want api.Errno) {
	t.Helper()
	if s, e := Stains(m, l, plan); len(s) != 0 || e != want {
		t.Errorf("Stains(%v, %v, %v) = %v, error %d, not error %d", m, l, plan, s, e, want)
	}
	if turn, by, e := Shows(m, l, plan); turn != 0 || by != 0 || e != want {
		t.Errorf("Shows(%v, %v, %v) = %d, %d, error %d, not error %d", m, l, plan, turn, by, e, want)
	}
	if n, e := Wash(m, l, first, second); n != 0 || e != want {
		t.Errorf("Wash(%v, %v, %d, %d) = %d, error %d, not error %d", m, l, first, second, n, e, want)
	}
	if want != api.ErrArg {
		return
	}
	if p, n, e := Best(m, l); len(p) != 0 || n != 0 || e != want {
		t.Errorf("Best(%v, %v) = %v, %d, error %d, not error %d", m, l, p, n, e, want)
	}
}

// R1: ErrArg for the mill and for the colours comes before all other errors.
func TestErrArg(t *testing.T) {
	expect := func(m api.Mill, l []api.Hue) {
		t.Helper()
		expectErrors(t, m, l, nil, 0, 0, api.ErrArg)
		expectErrors(t, m, l, plan(0, 0, 1, 0), 0, 1, api.ErrArg)
		expectErrors(t, m, l, plan(0, 0, 2, 0, 1, 0), 2, 1, api.ErrArg)
		expectErrors(t, m, l, plan(-1, 0), -1, 9, api.ErrArg)
		expectErrors(t, m, l, make([]api.Turn, 100), math.MaxInt, 0, api.ErrArg)
	}
	for _, s := range wrongSpans() {
		expect(millOf(s, span(100, 150), 40), hues())
		expect(millOf(span(20, 30), s, 40), hues())
		expect(millOf(s, s, 40), nil)
		for i := range hues() {
			l := hues()
			l[i].Depth = s
			expect(mill(), l)
			l = hues()
			l[i].Hide = s
			expect(mill(), l)
		}
	}
	for _, n := range wrongNumbers(0, api.MaxPrice) {
		expect(price(n), hues())
		expect(price(n), nil)
	}
	expect(mill(), slices.Repeat(exact(0, 0), 7))
	expect(mill(), make([]api.Hue, 1000))
}

// P8.1 to P8.3: what is no plan, and what is no number of a colour, has ErrRange.
func TestErrRange(t *testing.T) {
	for _, n := range wrongNumbers(0, 3) {
		expectErrors(t, mill(), hues(), plan(n, 0), n, 0, api.ErrRange)
		expectErrors(t, mill(), hues(), plan(0, 0, 1, 0, n, 1), 0, n, api.ErrRange)
		expectErrors(t, mill(), hues(), plan(2, 0, 1, 0, n, 0, 0, 0), n, n, api.ErrRange)
		expectErrors(t, weak(0), hues(), plan(3, 0, 0, 0, n, 0), 3, n, api.ErrRange)
	}
	for _, n := range wrongNumbers(0, api.MaxWashes) {
		expectErrors(t, mill(), hues(), plan(0, n), -1, 0, api.ErrRange)
		expectErrors(t, mill(), hues(), plan(0, 0, 1, 0, 3, n), 4, 0, api.ErrRange)
	}
	expectErrors(t, mill(), hues(), make([]api.Turn, api.MaxTurns+1), 0, 4, api.ErrRange)
	expectErrors(t, mill(), hues(), make([]api.Turn, 1000), 4, 4, api.ErrRange)
	expectErrors(t, mill(), nil, plan(0, 0), 0, 0, api.ErrRange)
}

// P8.1 to P8.4: mills, colours and plans at all their ends are valid.
func TestEnds(t *testing.T) {
	for _, s := range spans(0, 0, 0, 10000, 10000, 10000) {
		for _, n := range []int{0, api.MaxPrice} {
			m, l := millOf(s, s, n), slices.Repeat([]api.Hue{{Depth: s, Hide: s}}, api.MaxHues)
			p := slices.Repeat(plan(0, api.MaxWashes, api.MaxHues-1, 0), api.MaxTurns/2)
			if all, e := Stains(m, l, p); len(all) != len(p) || e != api.OK {
				t.Errorf("Stains(%v, %v) = %v, error %d", m, l, all, e)
			}
			if turn, by, e := Shows(m, l, p); e != api.OK && e != api.ErrNone {
				t.Errorf("Shows(%v, %v) = %d, %d, error %d", m, l, turn, by, e)
			}
			if n, e := Wash(m, l, 0, api.MaxHues-1); e != api.OK && e != api.ErrNone {
				t.Errorf("Wash(%v, %v) = %d, error %d", m, l, n, e)
			}
			if p, n, e := Best(m, l); e != api.OK && e != api.ErrNone {
				t.Errorf("Best(%v, %v) = %v, %d, error %d", m, l, p, n, e)
			}
		}
	}
}

// P8.5, R4: no argument is changed, and results are new memory.
func TestMemory(t *testing.T) {
	l, p := hues(), plan(0, 0, 1, 0, 2, 1, 3, 1)
	stains, _ := Stains(mill(), l, p)
	Shows(mill(), l, p)
	Wash(mill(), l, 2, 1)
	best, _, _ := Best(mill(), l)
	if !slices.Equal(l, hues()) || !slices.Equal(p, plan(0, 0, 1, 0, 2, 1, 3, 1)) {
		t.Errorf("arguments are changed: %v, %v", l, p)
	}
	for i := range p {
		stains[i], best[i] = span(7, 7), api.Turn{Hue: 9, Washes: 9}
	}
	if !slices.Equal(l, hues()) || !slices.Equal(p, plan(0, 0, 1, 0, 2, 1, 3, 1)) {
		t.Errorf("a result shares memory with an argument: %v, %v", l, p)
	}
	if again, _ := Stains(mill(), l, p); !slices.Equal(again, spans(0, 0, 60, 80, 0, 80, 350, 420)) {
		t.Errorf("Stains shares memory: %v", again)
	}
	if again, _, _ := Best(mill(), l); !slices.Equal(again, plan(0, 0, 1, 1, 2, 2, 3, 2)) {
		t.Errorf("Best shares memory: %v", again)
	}
}
