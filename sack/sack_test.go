package sack

import (
	"math"
	"slices"
	"testing"

	"pencilworks/api"
)

func span(lo, hi int) api.Span { return api.Span{Lo: lo, Hi: hi} }

func take(sack, lo, hi int) api.Take { return api.Take{Sack: sack, Weight: span(lo, hi)} }

// sure returns a sack whose numbers are known.
func sure(water, carbon, loss int) api.Sack {
	return api.Sack{Water: span(water, water), Carbon: span(carbon, carbon), Loss: span(loss, loss)}
}

// graphiteAndClay returns the sacks of the chapter's examples.
func graphiteAndClay() []api.Sack {
	return []api.Sack{
		{Water: span(10, 20), Carbon: span(900, 950), Loss: span(0, 0)},
		{Water: span(100, 150), Carbon: span(0, 0), Loss: span(100, 120)},
	}
}

// example returns the batch of the chapter's examples.
func example() []api.Take { return []api.Take{take(0, 600, 600), take(1, 500, 510)} }

// repeat returns a list of n equal values.
func repeat[T any](n int, v T) []T { return slices.Repeat([]T{v}, n) }

// P1.1: the chapter's example, bounds, and the rounding of both ends.
func TestWeigh(t *testing.T) {
	for _, c := range []struct {
		name string
		l    []api.Sack
		b    []api.Take
		want api.Parts
	}{
		{"example", graphiteAndClay(), example(), api.Parts{Water: span(56, 89), Carbon: span(529, 565), Smoke: span(42, 56), Clay: span(403, 473), Lead: span(962, 1008)}},
		{"all known", []api.Sack{sure(100, 500, 200)}, []api.Take{take(0, 1000, 1000)}, api.Parts{Water: span(100, 100), Carbon: span(450, 450), Smoke: span(90, 90), Clay: span(360, 360), Lead: span(810, 810)}},
		{"a gram is rounded both ways", []api.Sack{sure(100, 500, 200)}, []api.Take{take(0, 1, 1)}, api.Parts{Water: span(0, 1), Carbon: span(0, 1), Smoke: span(0, 1), Clay: span(0, 1), Lead: span(0, 1)}},
		{"rounded once, not for each take", []api.Sack{sure(500, 0, 0)}, []api.Take{take(0, 1, 1), take(0, 1, 1)}, api.Parts{Water: span(1, 1), Clay: span(1, 1), Lead: span(1, 1)}},
		{"rounded once, not for each sack", []api.Sack{sure(500, 0, 0), sure(500, 0, 0)}, []api.Take{take(0, 1, 1), take(1, 1, 1)}, api.Parts{Water: span(1, 1), Clay: span(1, 1), Lead: span(1, 1)}},
		{"as wet and as lossy as can be", []api.Sack{sure(900, 0, 900)}, []api.Take{take(0, 100_000, 100_000)}, api.Parts{Water: span(90_000, 90_000), Smoke: span(9000, 9000), Clay: span(1000, 1000), Lead: span(1000, 1000)}},
		{"all carbon", []api.Sack{sure(0, 1000, 900)}, []api.Take{take(0, 1, 100_000)}, api.Parts{Carbon: span(1, 100_000), Lead: span(1, 100_000)}},
		{"nothing known", []api.Sack{{Water: span(0, 900), Carbon: span(0, 1000), Loss: span(0, 900)}}, []api.Take{take(0, 1000, 1000)}, api.Parts{Water: span(0, 900), Carbon: span(0, 1000), Smoke: span(0, 900), Clay: span(0, 1000), Lead: span(10, 1000)}},
		{"most of all", repeat(8, sure(0, 1000, 0)), repeat(8, take(7, 100_000, 100_000)), api.Parts{Carbon: span(800_000, 800_000), Lead: span(800_000, 800_000)}},
		{"the lead is narrower than carbon and clay", []api.Sack{{Carbon: span(400, 600)}}, []api.Take{take(0, 10, 10)}, api.Parts{Carbon: span(4, 6), Clay: span(4, 6), Lead: span(10, 10)}},
	} {
		if got, e := Weigh(c.l, c.b); got != c.want || e != api.OK {
			t.Errorf("%s: Weigh = %v, error %d, not %v", c.name, got, e, c.want)
		}
	}
}

// P1.2: the chapter's example; ends that are reached at integers, and between them.
func TestShare(t *testing.T) {
	for _, c := range []struct {
		name string
		l    []api.Sack
		b    []api.Take
		want api.Span
	}{
		{"example", graphiteAndClay(), example(), span(528, 583)},
		{"half", []api.Sack{sure(0, 1000, 0), sure(0, 0, 0)}, []api.Take{take(0, 7, 7), take(1, 7, 7)}, span(500, 500)},
		{"a third", []api.Sack{sure(0, 1000, 0), sure(0, 0, 0)}, []api.Take{take(0, 1, 1), take(1, 2, 2)}, span(333, 334)},
		{"a quarter to two thirds", []api.Sack{sure(0, 1000, 0), sure(0, 0, 0)}, []api.Take{take(0, 100, 200), take(1, 100, 300)}, span(250, 667)},
		{"just above a thousandth", []api.Sack{sure(0, 1000, 0), sure(0, 0, 0)}, []api.Take{take(0, 100, 100), take(1, 99_899, 99_899)}, span(1, 2)},
		{"just below a thousandth", []api.Sack{sure(0, 1000, 0), sure(0, 0, 0)}, []api.Take{take(0, 99, 99), take(1, 99_901, 99_901)}, span(0, 1)},
		{"no carbon", []api.Sack{sure(900, 0, 900)}, []api.Take{take(0, 1, 100_000)}, span(0, 0)},
		{"all carbon", []api.Sack{sure(900, 1000, 900)}, []api.Take{take(0, 1, 100_000)}, span(1000, 1000)},
		{"nearly all carbon", []api.Sack{sure(0, 1000, 0), sure(900, 0, 900)}, []api.Take{take(0, 100_000, 100_000), take(1, 1, 1)}, span(999, 1000)},
		{"the weight of a single sack says nothing", []api.Sack{{Carbon: span(400, 600)}}, []api.Take{take(0, 1, 100_000)}, span(400, 600)},
		{"two takes of one sack have the same carbon", []api.Sack{{Carbon: span(400, 600)}}, repeat(2, take(0, 10, 10)), span(400, 600)},
		{"the fire takes clay only", []api.Sack{sure(0, 500, 900)}, []api.Take{take(0, 10, 10)}, span(909, 910)},
		{"most of all", repeat(8, sure(0, 1000, 0)), repeat(8, take(7, 100_000, 100_000)), span(1000, 1000)},
	} {
		if got, e := Share(c.l, c.b); got != c.want || e != api.OK {
			t.Errorf("%s: Share = %v, error %d, not %v", c.name, got, e, c.want)
		}
	}
}

// P1.3: the chapter's examples; no water, much water, and none that does.
func TestWater(t *testing.T) {
	dry, half := []api.Sack{sure(0, 0, 0)}, []api.Sack{sure(500, 0, 0)}
	heavy := repeat(8, take(0, 100_000, 100_000))
	ten := []api.Take{take(0, 10, 10)}
	for _, c := range []struct {
		name string
		l    []api.Sack
		b    []api.Take
		want api.Span
		got  api.Span
		e    api.Errno
	}{
		{"example", graphiteAndClay(), example(), span(300, 400), span(395, 588), api.OK},
		{"example, narrow", graphiteAndClay(), example(), span(300, 301), api.Span{}, api.ErrNone},
		{"wet enough", half, ten, span(500, 500), span(0, 0), api.OK},
		{"wet enough, and may be wetter", half, ten, span(100, 600), span(0, 2), api.OK},
		{"too wet", half, ten, span(0, 499), api.Span{}, api.ErrNone},
		{"all of it dry", dry, ten, span(0, 0), span(0, 0), api.OK},
		{"between two grams", dry, ten, span(100, 150), api.Span{}, api.ErrNone},
		{"up to a gram", dry, ten, span(0, 91), span(0, 1), api.OK},
		{"from a gram", dry, ten, span(90, 200), span(1, 2), api.OK},
		{"from more than a gram", dry, ten, span(91, 200), span(2, 2), api.OK},
		{"as wet as may be asked", dry, []api.Take{take(0, 1, 1)}, span(999, 999), span(999, 999), api.OK},
		{"most of all", dry, heavy, span(999, 999), span(799_200_000, 799_200_000), api.OK},
		{"most of all, or none", dry, heavy, span(0, 999), span(0, 799_200_000), api.OK},
		{"a weight that is not known", dry, []api.Take{take(0, 100, 200)}, span(500, 750), span(200, 300), api.OK},
		{"a sack that is wetter than is wanted, and another one", []api.Sack{sure(900, 0, 0), sure(0, 0, 0)}, []api.Take{take(0, 10, 20), take(1, 30, 30)}, span(500, 600), span(22, 30), api.OK},
	} {
		if got, e := Water(c.l, c.b, c.want); got != c.got || e != c.e {
			t.Errorf("%s: Water = %v, error %d, not %v, error %d", c.name, got, e, c.got, c.e)
		}
	}
}

// P1.4: the chapter's examples; both directions, both ends of the total, and none that does.
func TestMix(t *testing.T) {
	half := []api.Sack{sure(0, 1000, 0), sure(0, 0, 0)}
	same := []api.Sack{sure(0, 400, 0), sure(0, 400, 0)}
	vague := []api.Sack{{Carbon: span(0, 1000)}, {Carbon: span(0, 1000)}}
	for _, c := range []struct {
		name                 string
		l                    []api.Sack
		first, second, total int
		want                 api.Span
		got                  api.Span
		e                    api.Errno
	}{
		{"example", graphiteAndClay(), 0, 1, 1000, span(500, 600), span(509, 564), api.OK},
		{"example, narrow", graphiteAndClay(), 0, 1, 1000, span(500, 501), api.Span{}, api.ErrNone},
		{"example, the other way round", graphiteAndClay(), 1, 0, 1000, span(500, 600), span(436, 491), api.OK},
		{"just one", half, 0, 1, 10, span(500, 500), span(5, 5), api.OK},
		{"between two grams", half, 0, 1, 10, span(501, 599), api.Span{}, api.ErrNone},
		{"the share is not rounded", half, 0, 1, 3, span(334, 666), api.Span{}, api.ErrNone},
		{"the share is a fraction", half, 0, 1, 3, span(333, 334), span(1, 1), api.OK},
		{"neither sack alone", half, 0, 1, 10, span(0, 1000), span(1, 9), api.OK},
		{"nothing but the second", half, 0, 1, 10, span(0, 99), api.Span{}, api.ErrNone},
		{"nothing but the first", half, 0, 1, 10, span(901, 1000), api.Span{}, api.ErrNone},
		{"the least total", half, 0, 1, 2, span(500, 500), span(1, 1), api.OK},
		{"the greatest total", half, 0, 1, 100_000, span(1, 999), span(100, 99_900), api.OK},
		{"equal sacks", same, 0, 1, 7, span(400, 400), span(1, 6), api.OK},
		{"equal sacks, and too poor", same, 0, 1, 7, span(401, 1000), api.Span{}, api.ErrNone},
		{"equal sacks, and too rich", same, 0, 1, 7, span(0, 399), api.Span{}, api.ErrNone},
		{"anything does for what is not known", vague, 0, 1, 7, span(0, 1000), span(1, 6), api.OK},
		{"nothing does for what is not known", vague, 0, 1, 7, span(1, 1000), api.Span{}, api.ErrNone},
		{"the last of eight sacks", append(repeat(6, sure(0, 500, 0)), half...), 7, 6, 4, span(500, 750), span(1, 2), api.OK},
	} {
		if got, e := Mix(c.l, c.first, c.second, c.total, c.want); got != c.got || e != c.e {
			t.Errorf("%s: Mix = %v, error %d, not %v, error %d", c.name, got, e, c.got, c.e)
		}
	}
}

// wrongSacks returns lists of sacks that are not valid.
func wrongSacks() [][]api.Sack {
	lists := [][]api.Sack{repeat(9, sure(0, 0, 0))}
	for _, s := range []api.Span{span(-1, 0), span(-1, -1), span(2, 1), span(math.MinInt, 0), span(0, math.MaxInt), span(math.MaxInt, math.MinInt)} {
		lists = append(lists, []api.Sack{{Water: s}, {}}, []api.Sack{{}, {Carbon: s}}, []api.Sack{{}, {}, {Loss: s}})
	}
	return append(lists, []api.Sack{{Water: span(0, 901)}, {}}, []api.Sack{{Carbon: span(0, 1001)}, {}}, []api.Sack{{}, {Loss: span(0, 901)}}, []api.Sack{{}, {Water: span(901, 901)}})
}

// wrongBatches returns batches out of two sacks that are not valid.
func wrongBatches() [][]api.Take {
	lists := [][]api.Take{nil, {}, repeat(9, take(0, 1, 1))}
	for _, wrong := range []api.Take{{}, take(-1, 1, 1), take(2, 1, 1), take(math.MinInt, 1, 1), take(math.MaxInt, 1, 1), take(0, 0, 1), take(0, -1, 1), take(0, 2, 1), take(0, 1, 100_001), take(0, 100_001, 100_001), take(0, math.MinInt, math.MaxInt)} {
		lists = append(lists, []api.Take{wrong}, []api.Take{take(1, 1, 1), wrong})
	}
	return lists
}

// R1 and R2: ErrArg comes before all other errors, and with it there is nothing.
func TestWrongSacksAndBatches(t *testing.T) {
	check := func(what string, l []api.Sack, b []api.Take) {
		if p, e := Weigh(l, b); e != api.ErrArg || p != (api.Parts{}) {
			t.Errorf("%s: Weigh(%v, %v) = %v, error %d", what, l, b, p, e)
		}
		if s, e := Share(l, b); e != api.ErrArg || s != (api.Span{}) {
			t.Errorf("%s: Share(%v, %v) = %v, error %d", what, l, b, s, e)
		}
		for _, want := range []api.Span{span(0, 999), span(2, 1), span(0, 1000)} {
			if s, e := Water(l, b, want); e != api.ErrArg || s != (api.Span{}) {
				t.Errorf("%s: Water(%v, %v, %v) = %v, error %d", what, l, b, want, s, e)
			}
		}
	}
	for _, l := range wrongSacks() {
		check("sacks", l, []api.Take{take(0, 1, 1)})
		for _, second := range []int{0, 1, 9} {
			if s, e := Mix(l, 0, second, 2, span(0, 1000)); e != api.ErrArg || s != (api.Span{}) {
				t.Errorf("Mix of %v = %v, error %d", l, s, e)
			}
		}
	}
	for _, b := range wrongBatches() {
		check("batch", graphiteAndClay(), b)
	}
	check("no sacks", nil, []api.Take{take(0, 1, 1)})
	check("no sacks", []api.Sack{}, []api.Take{take(0, 1, 1)})
}

// P1.3 and P1.4: ErrRange, with ends of what is valid beside it.
func TestRanges(t *testing.T) {
	l, b := graphiteAndClay(), example()
	for _, want := range []api.Span{span(-1, 0), span(0, 1000), span(1000, 1000), span(2, 1), span(math.MinInt, math.MaxInt), span(math.MaxInt, math.MinInt)} {
		if s, e := Water(l, b, want); e != api.ErrRange || s != (api.Span{}) {
			t.Errorf("Water for %v = %v, error %d", want, s, e)
		}
	}
	for _, want := range []api.Span{span(-1, 0), span(0, 1001), span(1001, 1001), span(2, 1), span(math.MinInt, math.MaxInt), span(math.MaxInt, math.MinInt)} {
		if s, e := Mix(l, 0, 1, 10, want); e != api.ErrRange || s != (api.Span{}) {
			t.Errorf("Mix for %v = %v, error %d", want, s, e)
		}
	}
	for _, n := range [][3]int{{0, 0, 10}, {1, 1, 10}, {-1, 0, 10}, {0, -1, 10}, {2, 0, 10}, {0, 2, 10}, {math.MinInt, math.MaxInt, 10}, {0, 1, 1}, {0, 1, 0}, {0, 1, -5}, {0, 1, 100_001}, {0, 1, math.MinInt}, {0, 1, math.MaxInt}} {
		if s, e := Mix(l, n[0], n[1], n[2], span(0, 1000)); e != api.ErrRange || s != (api.Span{}) {
			t.Errorf("Mix of %v = %v, error %d", n, s, e)
		}
	}
	for _, l := range [][]api.Sack{nil, {}, {{}}} {
		if s, e := Mix(l, 0, 1, 10, span(0, 1000)); e != api.ErrRange || s != (api.Span{}) {
			t.Errorf("Mix of %d sacks = %v, error %d", len(l), s, e)
		}
	}
}

// P1: whatever the numbers are, each function ends, and has a result or an error.
func TestAnyArguments(t *testing.T) {
	ends := []int{math.MinInt, -1, 0, 1, 900, 1000, 100_000, math.MaxInt}
	for _, lo := range ends {
		for _, hi := range ends {
			s := span(lo, hi)
			l := []api.Sack{{Water: s, Carbon: s, Loss: s}, {}}
			b := []api.Take{{Sack: hi, Weight: s}, {Sack: lo, Weight: s}}
			Weigh(l, b)
			Share(l, b)
			Water(l, b, s)
			Weigh(l, []api.Take{{Weight: s}})
			Share(make([]api.Sack, 2), []api.Take{{Weight: s}})
			Water(make([]api.Sack, 2), []api.Take{{Weight: s}}, s)
			for _, total := range ends {
				Mix(l, lo, hi, total, s)
				Mix(make([]api.Sack, 2), 0, 1, total, s)
			}
		}
	}
}

// P1.5 and R4: arguments stay as they were.
func TestArgumentsStay(t *testing.T) {
	l, b := graphiteAndClay(), example()
	Weigh(l, b)
	Share(l, b)
	Water(l, b, span(300, 400))
	Mix(l, 0, 1, 1000, span(500, 600))
	if !slices.Equal(l, graphiteAndClay()) || !slices.Equal(b, example()) {
		t.Errorf("the arguments have become %v and %v", l, b)
	}
}

// A caller that has seen enough corners may leave.
func TestCornersCanBeLeft(t *testing.T) {
	seen := 0
	for range gramOf(graphiteAndClay()[0]).corners() {
		seen++
		if seen == 3 {
			break
		}
	}
	if seen != 3 {
		t.Errorf("%d corners were seen", seen)
	}
}
