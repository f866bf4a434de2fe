package coat

import (
	"math"
	"slices"
	"testing"

	"pencilworks/api"
)

func span(lo, hi int) api.Span { return api.Span{Lo: lo, Hi: hi} }

// example returns the paint shop of the chapter's examples.
func example() api.Paint {
	return shopOf(2, 1, batch(10, 4, 6, 3, 5), batch(10, 5, 8))
}

// with returns the paint shop of the examples with a change.
func with(change func(p *api.Paint)) api.Paint {
	p := example()
	change(&p)
	return p
}

// racks returns the paint shop of the examples with other racks.
func racks(n int) api.Paint { return with(func(p *api.Paint) { p.Racks = n }) }

// late returns the paint shop of the examples, in which the batch 0 may be dipped later, or less late.
func late(n int) api.Paint { return with(func(p *api.Paint) { p.Batches[0].Late = n }) }

// shopOf returns a paint shop.
func shopOf(dip, racks int, l ...api.Coats) api.Paint {
	return api.Paint{Dip: dip, Racks: racks, Batches: l}
}

// batch returns a batch: how late it may be dipped again, and two bounds for each coat.
func batch(late int, dry ...int) api.Coats {
	c := api.Coats{Late: late}
	for i := 0; i < len(dry); i += 2 {
		c.Dry = append(c.Dry, span(dry[i], dry[i+1]))
	}
	return c
}

// plan returns dips, by a batch and an hour for each.
func plan(l ...int) (all []api.Dip) {
	for i := 0; i < len(l); i += 2 {
		all = append(all, api.Dip{Batch: l[i], Hour: l[i+1]})
	}
	return all
}

// order returns a list of batches.
func order(l ...int) []int { return l }

// three returns a shop of three batches that have one coat each, and dry for 9, 4 and 1 hours.
func three(racks int) api.Paint {
	return shopOf(1, racks, batch(0, 9, 9), batch(0, 4, 4), batch(0, 1, 1))
}

// quick returns a shop in which coats need not dry.
func quick(late int) api.Paint { return shopOf(3, 1, batch(late, 0, 0, 0, 0), batch(late, 0, 0)) }

// P7.1: the chapter's examples, each check just when it holds and just when it does not, and which of several checks comes first.
func TestCheck(t *testing.T) {
	for _, c := range []struct {
		name  string
		p     api.Paint
		l     []api.Dip
		index int
		e     api.Errno
	}{
		{"example, no rack", example(), plan(0, 0, 1, 2), 1, api.ErrShort},
		{"example, not dry", example(), plan(0, 0, 0, 7), 1, api.ErrState},
		{"example, during another dip", example(), plan(0, 0, 1, 1), 1, api.ErrOrder},
		{"example, too late", example(), plan(0, 0, 0, 17), 1, api.ErrRefuse},
		{"example, at its times", example(), plan(0, 0, 1, 6, 0, 14), 3, api.OK},
		{"example, later", example(), plan(0, 100, 1, 106, 0, 116), 3, api.OK},
		{"no dips", example(), nil, 0, api.ErrNone},
		{"an empty list", example(), plan(), 0, api.ErrNone},
		{"a coat is left", example(), plan(0, 0, 1, 6), 2, api.ErrNone},
		{"a batch is left", example(), plan(0, 0, 0, 8), 2, api.ErrNone},
		{"the other batch is left", example(), plan(1, 0), 1, api.ErrNone},

		{"no such batch", example(), plan(2, 0), 0, api.ErrRange},
		{"a batch less than the first", example(), plan(0, 0, -1, 8), 1, api.ErrRange},
		{"before the hour 0", example(), plan(0, -1), 0, api.ErrRange},
		{"before the hour 0, and full", example(), plan(1, 0, 1, -1), 1, api.ErrRange},
		{"the last hour", example(), plan(0, api.MaxHour), 1, api.ErrNone},
		{"after the last hour", example(), plan(0, api.MaxHour+1), 0, api.ErrRange},
		{"the last hour that is in time", example(), plan(0, api.MaxHour-16, 0, api.MaxHour), 2, api.ErrNone},

		{"full, and too early in all ways", example(), plan(1, 9, 1, 0), 1, api.ErrFull},
		{"full, and late", example(), plan(1, 0, 1, 500), 1, api.ErrFull},
		{"full after two", example(), plan(0, 0, 0, 8, 0, 16), 2, api.ErrFull},
		{"full after all", example(), plan(0, 0, 1, 6, 0, 14, 1, 30), 3, api.ErrFull},

		{"just when another dip ends", racks(2), plan(0, 0, 1, 2), 2, api.ErrNone},
		{"just before another dip ends", racks(2), plan(0, 0, 1, 1), 1, api.ErrOrder},
		{"before another dip", racks(2), plan(0, 5, 1, 0), 1, api.ErrOrder},
		{"during a dip of the same batch", example(), plan(0, 5, 0, 6), 1, api.ErrOrder},
		{"not before the dip two before it", racks(2), plan(0, 0, 1, 8, 0, 9), 2, api.ErrOrder},

		{"just when it is dry", example(), plan(0, 0, 0, 8), 2, api.ErrNone},
		{"just before it is dry", example(), plan(0, 0, 0, 7), 1, api.ErrState},
		{"before it is dry, and too late", late(0), plan(0, 0, 0, 7), 1, api.ErrState},
		{"it need not dry", quick(0), plan(0, 0, 0, 3, 1, 6), 3, api.OK},
		{"it need not dry, but be dipped", quick(0), plan(0, 0, 0, 2), 1, api.ErrOrder},
		{"the second coat dries for another time", shopOf(1, 1, batch(9, 0, 2, 0, 7, 0, 1)), plan(0, 0, 0, 3, 0, 10), 2, api.ErrState},
		{"the second coat is dry", shopOf(1, 1, batch(9, 0, 2, 0, 7, 0, 1)), plan(0, 0, 0, 3, 0, 11), 3, api.OK},

		{"just in time", example(), plan(0, 0, 0, 16), 2, api.ErrNone},
		{"just too late", example(), plan(0, 0, 0, 17), 1, api.ErrRefuse},
		{"dry just in time", late(2), plan(0, 0, 0, 8), 2, api.ErrNone},
		{"dry too late", late(1), plan(0, 0, 0, 8), 1, api.ErrRefuse},
		{"dry too late, by far", late(0), plan(0, 0, 0, 8), 1, api.ErrRefuse},
		{"the first coat is never too late", late(0), plan(1, 0, 0, 1000), 2, api.ErrNone},
		{"too late, and no rack", late(0), plan(0, 0, 1, 6, 0, 12), 2, api.ErrRefuse},
		{"too late by the second coat", shopOf(1, 1, batch(3, 5, 5, 1, 1, 0, 0)), plan(0, 0, 0, 9, 0, 15), 2, api.ErrRefuse},
		{"in time by the second coat", shopOf(1, 1, batch(3, 5, 5, 1, 1, 0, 0)), plan(0, 0, 0, 9, 0, 14), 3, api.OK},

		{"just when a rack is free", example(), plan(0, 0, 1, 6), 2, api.ErrNone},
		{"just before a rack is free", example(), plan(0, 0, 1, 5), 1, api.ErrShort},
		{"its own rack", example(), plan(0, 0, 0, 8, 1, 13), 3, api.OK},
		{"the rack of its second coat", example(), plan(0, 0, 0, 8, 1, 12), 2, api.ErrShort},
		{"two racks for three", three(2), plan(0, 0, 1, 1, 2, 5), 3, api.OK},
		{"two racks for three, just too early", three(2), plan(0, 0, 1, 1, 2, 4), 2, api.ErrShort},
		{"three racks for three", three(3), plan(0, 0, 1, 1, 2, 2), 3, api.OK},
		{"the rack that was free first is taken again", three(2), plan(1, 0, 0, 1, 2, 4), 3, api.OK},
		{"a rack is needed where nothing dries, too", shopOf(1, 1, batch(0, 9, 9), batch(0, 0, 0)), plan(0, 0, 1, 8), 1, api.ErrShort},
		{"what need not dry takes no rack", shopOf(1, 1, batch(0, 0, 0), batch(0, 9, 9)), plan(0, 0, 1, 1), 2, api.OK},

		{"the first of several that are not right", example(), plan(0, 0, 0, 7, 2, 0), 1, api.ErrState},
		{"many dips", example(), slices.Repeat(plan(0, 0), 1000), 1, api.ErrOrder},
	} {
		if n, e := Check(c.p, c.l); n != c.index || e != c.e {
			t.Errorf("%s: Check = %d, error %d, not %d, error %d", c.name, n, e, c.index, c.e)
		}
	}
}

// P7.2: the chapter's examples; for what each dip waits, and the first dip with an error.
func TestTimes(t *testing.T) {
	for _, c := range []struct {
		name  string
		p     api.Paint
		order []int
		hours []int
		index int
		e     api.Errno
	}{
		{"example 0 1 0", example(), order(0, 1, 0), order(0, 6, 14), 3, api.OK},
		{"example 0 0 1", example(), order(0, 0, 1), order(0, 8, 13), 3, api.OK},
		{"example 1 0 0", example(), order(1, 0, 0), order(0, 8, 16), 3, api.OK},
		{"example, a coat is left", example(), order(0, 1), nil, 2, api.ErrNone},
		{"example, full", example(), order(0, 0, 0), nil, 2, api.ErrFull},
		{"example, too late", late(7), order(0, 1, 0), nil, 2, api.ErrRefuse},
		{"just in time", late(8), order(0, 1, 0), order(0, 6, 14), 3, api.OK},
		{"no dips", example(), nil, nil, 0, api.ErrNone},
		{"an empty list", example(), order(), nil, 0, api.ErrNone},
		{"a batch is left", example(), order(0, 0), nil, 2, api.ErrNone},

		{"for the dip before", racks(2), order(0, 1, 0), order(0, 2, 8), 3, api.OK},
		{"for the dip before, not for a rack", racks(2), order(1, 0, 0), order(0, 2, 10), 3, api.OK},
		{"for its coat, then for the dip before", racks(2), order(0, 0, 1), order(0, 8, 10), 3, api.OK},
		{"as many racks as can be", racks(4), order(0, 1, 0), order(0, 2, 8), 3, api.OK},
		{"for the rack that is free first", three(2), order(0, 1, 2), order(0, 1, 5), 3, api.OK},
		{"for the rack that is free first, but not taken first", three(2), order(1, 0, 2), order(0, 1, 4), 3, api.OK},
		{"for each rack", three(1), order(0, 1, 2), order(0, 9, 13), 3, api.OK},
		{"for none", three(3), order(0, 1, 2), order(0, 1, 2), 3, api.OK},
		{"for no coat", quick(0), order(0, 1, 0), nil, 2, api.ErrRefuse},
		{"for no coat, just in time", quick(3), order(0, 1, 0), order(0, 3, 6), 3, api.OK},
		{"for no coat, at once", quick(0), order(0, 0, 1), order(0, 3, 6), 3, api.OK},
		{"for no rack, as the dip takes as long", shopOf(8, 1, batch(0, 8, 8), batch(0, 1, 1)), order(0, 1), order(0, 8), 2, api.OK},
		{"for a rack, as the dip takes not so long", shopOf(7, 1, batch(0, 8, 8), batch(0, 1, 1)), order(0, 1), order(0, 8), 2, api.OK},
		{"for the rack of another one, not for its own", shopOf(1, 2, batch(20, 9, 9, 9, 9), batch(20, 5, 5), batch(20, 20, 20)), order(2, 1, 0, 0), order(0, 1, 6, 16), 4, api.OK},
		{"the most", shopOf(24, 1, batch(1000, 1000, 1000, 1000, 1000, 1000, 1000, 1000, 1000, 1000, 1000, 1000, 1000, 1000, 1000, 1000, 1000, 1000, 1000)), make([]int, 9), order(0, 1024, 2048, 3072, 4096, 5120, 6144, 7168, 8192), 9, api.OK},

		{"no such batch", example(), order(2), nil, 0, api.ErrRange},
		{"a batch less than the first", example(), order(0, -1), nil, 1, api.ErrRange},
		{"no such batch by far", example(), order(0, 1, math.MaxInt), nil, 2, api.ErrRange},
		{"no such batch, after one that is full", example(), order(1, 1, 2), nil, 1, api.ErrFull},
		{"no such batch, after one that is too late", late(7), order(0, 1, 0, 2), nil, 2, api.ErrRefuse},
		{"no such batch, after all", example(), order(0, 1, 0, 2), nil, 3, api.ErrRange},
		{"full, after all", example(), order(0, 1, 0, 0), nil, 3, api.ErrFull},
		{"full, although it would be too late", late(0), order(1, 0, 1), nil, 2, api.ErrFull},
		{"surely dry only when it is too late", late(1), order(0, 0, 1), nil, 1, api.ErrRefuse},
		{"surely dry just in time", late(2), order(0, 0, 1), order(0, 8, 13), 3, api.OK},
		{"many dips", example(), make([]int, 1000), nil, 2, api.ErrFull},
	} {
		if l, n, e := Times(c.p, c.order); !slices.Equal(l, c.hours) || n != c.index || e != c.e {
			t.Errorf("%s: Times = %v, %d, error %d, not %v, %d, error %d", c.name, l, n, e, c.hours, c.index, c.e)
		}
	}
}

// P7.3: the chapter's examples, and each hour at which something begins or ends.
func TestWet(t *testing.T) {
	at := map[int]api.Span{0: span(0, 0), 1: span(0, 0), 2: span(1, 1), 5: span(1, 1), 6: span(0, 1), 7: span(0, 1), 8: span(1, 1), 9: span(1, 1), 12: span(1, 1), 13: span(0, 1), 15: span(0, 1), 16: span(1, 1), 18: span(1, 1), 19: span(0, 1), 20: span(0, 1), 21: span(0, 0), api.MaxHour: span(0, 0)}
	for hour, want := range at {
		if s, e := Wet(example(), order(0, 1, 0), hour); s != want || e != api.OK {
			t.Errorf("Wet of the example at %d = %v, error %d, not %v", hour, s, e, want)
		}
	}
	for _, c := range []struct {
		name  string
		p     api.Paint
		order []int
		hour  int
		want  api.Span
	}{
		{"two at once", racks(2), order(0, 1, 0), 4, span(2, 2)},
		{"two at once, and the first can be dry", racks(2), order(0, 1, 0), 6, span(1, 2)},
		{"one after the first is dry", racks(2), order(0, 1, 0), 8, span(1, 1)},
		{"either can be dry", racks(2), order(1, 0, 0), 7, span(1, 2)},
		{"both can be dry", racks(2), order(1, 0, 0), 8, span(0, 2)},
		{"the second coat counts while the batch has had two", racks(2), order(0, 1, 0), 12, span(1, 1)},
		{"three at once", three(3), order(0, 1, 2), 3, span(3, 3)},
		{"three, one of which is dry", three(3), order(0, 1, 2), 4, span(2, 2)},
		{"what need not dry is never wet", quick(3), order(0, 1, 0), 3, span(0, 0)},
		{"a batch that is dipped again is dry", shopOf(5, 1, batch(9, 2, 3, 1, 4)), order(0, 0), 12, span(0, 0)},
		{"a batch that was dipped again is wet", shopOf(5, 1, batch(9, 2, 3, 1, 4)), order(0, 0), 13, span(1, 1)},
	} {
		if s, e := Wet(c.p, c.order, c.hour); s != c.want || e != api.OK {
			t.Errorf("%s: Wet = %v, error %d, not %v", c.name, s, e, c.want)
		}
	}
}

// P7.4: the chapter's examples; what is done earliest, which of several orders is first, and shops without an order.
func TestBest(t *testing.T) {
	for _, c := range []struct {
		name  string
		p     api.Paint
		order []int
		hour  int
		e     api.Errno
	}{
		{"example", example(), order(0, 1, 0), 21, api.OK},
		{"example, with two racks", racks(2), order(0, 1, 0), 15, api.OK},
		{"the best one just in time", late(8), order(0, 1, 0), 21, api.OK},
		{"the best one just too late", late(7), order(0, 0, 1), 23, api.OK},
		{"the last ones just in time", late(2), order(0, 0, 1), 23, api.OK},
		{"all are too late", late(1), nil, 0, api.ErrNone},
		{"the longest first", three(3), order(0, 1, 2), 10, api.OK},
		{"the longest first, but not by its number", shopOf(1, 3, batch(0, 1, 1), batch(0, 9, 9), batch(0, 9, 9)), order(1, 2, 0), 11, api.OK},
		{"all equal", shopOf(1, 2, batch(0, 2, 2), batch(0, 2, 2)), order(0, 1), 4, api.OK},
		{"all orders, with one rack", three(1), order(0, 1, 2), 15, api.OK},
		{"one dip", shopOf(3, 1, batch(0, 0, 0)), order(0), 3, api.OK},
		{"one batch", shopOf(3, 1, batch(0, 4, 4, 1, 1)), order(0, 0), 11, api.OK},
		{"one batch that is too late", shopOf(3, 4, batch(0, 3, 4, 1, 1)), nil, 0, api.ErrNone},
		{"one of the batches is always too late", shopOf(1, 4, batch(1000, 1, 1, 1, 1), batch(999, 0, 1000, 0, 0)), nil, 0, api.ErrNone},
		{"one of the batches is just in time", shopOf(1, 4, batch(1000, 1, 1, 1, 1), batch(1000, 0, 1000, 0, 0)), order(1, 0, 0, 1), 1002, api.OK},
		{"without delays", quick(0), order(0, 0, 1), 9, api.OK},
		{"the most coats", shopOf(1, 4, batch(1000, 0, 5, 0, 5, 0, 5), batch(1000, 0, 5, 0, 5), batch(1000, 0, 5, 0, 5), batch(1000, 0, 5, 0, 5)), order(0, 1, 2, 3, 0, 1, 2, 3, 0), 18, api.OK},
		{"the most coats of one batch", shopOf(24, 1, batch(1000, slices.Repeat([]int{0, 1000}, 9)...)), make([]int, 9), 9216, api.OK},
	} {
		if l, n, e := Best(c.p); !slices.Equal(l, c.order) || n != c.hour || e != c.e {
			t.Errorf("%s: Best = %v, %d, error %d, not %v, %d, error %d", c.name, l, n, e, c.order, c.hour, c.e)
		}
	}
}

// wrongNumbers returns numbers that are not from one to another one.
func wrongNumbers(least, most int) []int {
	return []int{least - 1, most + 1, math.MinInt, math.MaxInt}
}

// wrongShops returns paint shops that are not valid.
func wrongShops() []api.Paint {
	one := batch(0, 1, 1)
	l := []api.Paint{{}, shopOf(2, 1), shopOf(2, 1, []api.Coats{}...), shopOf(2, 1, one, one, one, one, one), shopOf(2, 1, make([]api.Coats, 1000)...),
		shopOf(2, 1, batch(0)), shopOf(2, 1, one, batch(0)), shopOf(2, 1, one, api.Coats{Dry: []api.Span{}}),
		shopOf(2, 1, batch(0, make([]int, 20)...)), shopOf(2, 1, one, batch(0, make([]int, 18)...)), shopOf(2, 1, batch(0, make([]int, 10)...), batch(0, make([]int, 10)...)), shopOf(2, 1, one, one, one, batch(0, make([]int, 14)...))}
	for _, n := range wrongNumbers(1, api.MaxDip) {
		l = append(l, with(func(p *api.Paint) { p.Dip = n }))
	}
	for _, n := range wrongNumbers(1, api.MaxRacks) {
		l = append(l, racks(n))
	}
	for _, n := range wrongNumbers(0, api.MaxDry) {
		l = append(l, late(n), with(func(p *api.Paint) { p.Batches[1].Late = n }))
	}
	for _, s := range []api.Span{span(-1, 0), span(-1, -1), span(2, 1), span(0, 1001), span(1001, 1001), span(math.MinInt, 5), span(5, math.MaxInt), span(math.MaxInt, math.MinInt)} {
		l = append(l, with(func(p *api.Paint) { p.Batches[0].Dry[0] = s }), with(func(p *api.Paint) { p.Batches[0].Dry[1] = s }), with(func(p *api.Paint) { p.Batches[1].Dry[0] = s }))
	}
	return l
}

// expectOrder checks that the functions that take an order return an error, and nothing else but an index.
func expectOrder(t *testing.T, p api.Paint, l []int, hour, index int, want api.Errno) {
	t.Helper()
	if hours, n, e := Times(p, l); len(hours) != 0 || n != index || e != want {
		t.Errorf("Times(%v, %v) = %v, %d, error %d", p, l, hours, n, e)
	}
	if s, e := Wet(p, l, hour); s != (api.Span{}) || e != want {
		t.Errorf("Wet(%v, %v, %d) = %v, error %d", p, l, hour, s, e)
	}
}

// R1: ErrArg for the paint shop comes before all other errors.
func TestWrongShops(t *testing.T) {
	for _, p := range wrongShops() {
		for _, l := range [][]api.Dip{nil, plan(0, 0), plan(0, 0, 1, 6, 0, 14), plan(9, 0), plan(0, -1), plan(-1, math.MinInt, 0, 0)} {
			if n, e := Check(p, l); n != 0 || e != api.ErrArg {
				t.Errorf("Check(%v, %v) = %d, error %d", p, l, n, e)
			}
		}
		for _, l := range [][]int{nil, order(0), order(0, 1, 0), order(0, 9), order(-1), make([]int, 100)} {
			for _, hour := range append(wrongNumbers(0, api.MaxHour), 5) {
				expectOrder(t, p, l, hour, 0, api.ErrArg)
			}
		}
		if l, n, e := Best(p); len(l) != 0 || n != 0 || e != api.ErrArg {
			t.Errorf("Best(%v) = %v, %d, error %d", p, l, n, e)
		}
	}
}

// R1, P7.3: the errors of an order come before that of the hour.
func TestWrongHours(t *testing.T) {
	for _, hour := range append(wrongNumbers(0, api.MaxHour), 0, 7, api.MaxHour) {
		for _, b := range wrongNumbers(0, 1) {
			expectOrder(t, example(), order(b), hour, 0, api.ErrRange)
			expectOrder(t, example(), order(1, 0, b), hour, 2, api.ErrRange)
			expectOrder(t, example(), order(1, 1, b), hour, 1, api.ErrFull)
		}
		expectOrder(t, late(7), order(0, 1, 0), hour, 2, api.ErrRefuse)
		expectOrder(t, example(), nil, hour, 0, api.ErrNone)
		expectOrder(t, example(), order(0, 0), hour, 2, api.ErrNone)
	}
	for _, hour := range wrongNumbers(0, api.MaxHour) {
		if s, e := Wet(example(), order(0, 1, 0), hour); s != (api.Span{}) || e != api.ErrRange {
			t.Errorf("Wet at %d = %v, error %d", hour, s, e)
		}
	}
}

// P7.1: a dip of which nothing is right has the error of the first check.
func TestWrongDips(t *testing.T) {
	for _, b := range wrongNumbers(0, 1) {
		for _, hour := range append(wrongNumbers(0, api.MaxHour), 0, 50) {
			if n, e := Check(example(), plan(1, 0, b, hour)); n != 1 || e != api.ErrRange {
				t.Errorf("Check of %d at %d = %d, error %d", b, hour, n, e)
			}
		}
	}
	for _, hour := range wrongNumbers(0, api.MaxHour) {
		for b := range 2 {
			if n, e := Check(example(), plan(1, 0, b, hour)); n != 1 || e != api.ErrRange {
				t.Errorf("Check of %d at %d = %d, error %d", b, hour, n, e)
			}
		}
	}
}

// P7.1 to P7.4: shops at all their ends are valid.
func TestEnds(t *testing.T) {
	for _, p := range []api.Paint{
		shopOf(1, 1, batch(0, 0, 0)),
		shopOf(api.MaxDip, api.MaxRacks, batch(api.MaxDry, 0, api.MaxDry)),
		shopOf(1, api.MaxRacks, batch(0, make([]int, 18)...)),
		shopOf(api.MaxDip, 1, batch(api.MaxDry, slices.Repeat([]int{api.MaxDry}, 12)...), batch(0, 0, 0), batch(0, 5, 5), batch(api.MaxDry, 0, api.MaxDry)),
	} {
		l, _, e := Best(p)
		if e != api.OK {
			t.Fatalf("Best(%v): error %d", p, e)
		}
		hours, n, e := Times(p, l)
		if n != len(l) || e != api.OK {
			t.Errorf("Times(%v, %v) = %v, %d, error %d", p, l, hours, n, e)
		}
		if n, e := Check(p, planOf(l, hours)); n != len(l) || e != api.OK {
			t.Errorf("Check(%v) of the best order = %d, error %d", p, n, e)
		}
		for _, hour := range []int{0, api.MaxHour} {
			if s, e := Wet(p, l, hour); s != (api.Span{}) || e != api.OK {
				t.Errorf("Wet(%v, %v, %d) = %v, error %d", p, l, hour, s, e)
			}
		}
	}
}

// planOf returns the dips of an order that begin at some hours.
func planOf(l, hours []int) (all []api.Dip) {
	for i, b := range l {
		all = append(all, api.Dip{Batch: b, Hour: hours[i]})
	}
	return all
}

// P7.5, R4: no argument is changed, and results are new memory.
func TestMemory(t *testing.T) {
	p, dips, l := example(), plan(0, 0, 1, 6, 0, 14), order(0, 1, 0)
	Check(p, dips)
	Wet(p, l, 7)
	hours, _, _ := Times(p, l)
	best, _, _ := Best(p)
	if !slices.Equal(dips, plan(0, 0, 1, 6, 0, 14)) || !slices.Equal(l, order(0, 1, 0)) {
		t.Errorf("arguments are changed: %v, %v", dips, l)
	}
	for i, b := range example().Batches {
		if p.Batches[i].Late != b.Late || !slices.Equal(p.Batches[i].Dry, b.Dry) {
			t.Errorf("the batch %d is changed: %v", i, p.Batches[i])
		}
	}
	for i := range hours {
		hours[i], best[i] = 99, 99
	}
	if !slices.Equal(l, order(0, 1, 0)) {
		t.Errorf("a result shares memory with the order: %v", l)
	}
	if again, _, _ := Times(p, l); !slices.Equal(again, order(0, 6, 14)) {
		t.Errorf("Times shares memory: %v", again)
	}
	if again, _, _ := Best(p); !slices.Equal(again, order(0, 1, 0)) {
		t.Errorf("Best shares memory: %v", again)
	}
}
