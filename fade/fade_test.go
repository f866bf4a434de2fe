package fade

import (
	"math"
	"slices"
	"testing"

	"pencilworks/api"
)

func span(lo, hi int) api.Span { return api.Span{Lo: lo, Hi: hi} }

func spansOf(l ...api.Span) []api.Span { return l }

// ref and sample return checks: after how many months, of which one, and whether it had faded.
func ref(month, index int, faded bool) api.Check {
	return api.Check{Month: month, What: api.WhatRef, Index: index, Faded: faded}
}

func sample(month, index int, faded bool) api.Check {
	return api.Check{Month: month, What: api.WhatSample, Index: index, Faded: faded}
}

// cards returns the cards of the chapter's examples, with further checks.
func cards(more ...api.Check) api.Fading {
	f := unseen()
	f.Checks = append([]api.Check{ref(1, 0, true), ref(1, 1, false), sample(1, 0, false), ref(2, 1, true), sample(2, 0, true), sample(2, 1, false), ref(3, 2, false)}, more...)
	return f
}

// unseen returns the cards of the chapter's examples with no checks but some others.
func unseen(checks ...api.Check) api.Fading {
	return api.Fading{
		Months:  spansOf(span(100, 120), span(80, 100), span(90, 110)),
		Refs:    spansOf(span(60, 80), span(150, 170), span(260, 300)),
		Samples: 2,
		Checks:  checks,
	}
}

// of returns cards with two samples.
func of(months, refs []api.Span, checks ...api.Check) api.Fading {
	return api.Fading{Months: months, Refs: refs, Samples: 2, Checks: checks}
}

// full returns cards with as much as there can be of all, each span as wide as it can be.
func full() api.Fading {
	return api.Fading{
		Months:  slices.Repeat(spansOf(span(0, api.MaxLight)), api.MaxMonths),
		Refs:    slices.Repeat(spansOf(span(1, api.MaxFast)), api.MaxRefs),
		Samples: api.MaxSamples,
		Checks:  slices.Repeat([]api.Check{ref(0, 0, false)}, api.MaxChecks),
	}
}

// bright returns the cards with the most light.
func bright(checks ...api.Check) api.Fading {
	f := full()
	f.Months = slices.Repeat(spansOf(span(api.MaxLight, api.MaxLight)), api.MaxMonths)
	f.Checks = checks
	return f
}

// P12.1: the chapter's examples; what was looked at bounds the light at its own time and at others, from below and from above.
func TestLight(t *testing.T) {
	dull := slices.Repeat(spansOf(span(0, 9)), 3)
	for _, c := range []struct {
		name  string
		f     api.Fading
		month int
		want  api.Span
	}{
		{"example after 1", cards(), 1, span(100, 120)},
		{"example after 2", cards(), 2, span(180, 209)},
		{"example after 3", cards(), 3, span(270, 299)},
		{"example after none", cards(), 0, span(0, 0)},
		{"no checks, after none", unseen(), 0, span(0, 0)},
		{"no checks, after 2", unseen(), 2, span(180, 220)},
		{"no checks, after 3", unseen(), 3, span(270, 330)},
		{"no months", of(nil, nil), 0, span(0, 0)},
		{"all light", bright(), 12, span(12*api.MaxLight, 12*api.MaxLight)},
		{"any light", full(), 12, span(0, 12*api.MaxLight)},
		{"at least what a faded one takes at least", of(dull, spansOf(span(12, 30)), ref(2, 0, true)), 2, span(12, 18)},
		{"and later", of(dull, spansOf(span(12, 30)), ref(2, 0, true)), 3, span(12, 27)},
		{"and earlier", of(dull, spansOf(span(12, 30)), ref(2, 0, true)), 1, span(3, 9)},
		{"less than what takes more takes at most", of(dull, spansOf(span(1, 8)), ref(2, 0, false)), 2, span(0, 7)},
		{"and earlier, too", of(dull, spansOf(span(1, 8)), ref(2, 0, false)), 1, span(0, 7)},
		{"and later, too", of(dull, spansOf(span(1, 8)), ref(2, 0, false)), 3, span(0, 16)},
		{"a sample fades between two looks", of(dull, nil, sample(1, 0, false), sample(2, 0, true)), 2, span(1, 18)},
		{"references fade between two looks", of(dull, slices.Repeat(spansOf(span(1, 99)), 3), ref(1, 0, false), ref(2, 2, true)), 2, span(3, 18)},
		{"references after a look that has none", of(dull, slices.Repeat(spansOf(span(1, 99)), 3), ref(1, 2, true)), 1, span(3, 9)},
		{"a reference that is hindered by the next one", of(dull, spansOf(span(1, 99), span(1, 7)), ref(3, 0, false)), 3, span(0, 5)},
		{"a look after no months says nothing", of(dull, spansOf(span(5, 9)), ref(0, 0, false), sample(0, 1, false)), 3, span(0, 27)},
	} {
		if s, e := Light(c.f, c.month); s != c.want || e != api.OK {
			t.Errorf("%s: Light = %v, error %d, not %v", c.name, s, e, c.want)
		}
	}
}

// P12.2: the chapter's examples; references take more and more light; what has faded takes at most what light there was, and what has not more than that.
func TestFast(t *testing.T) {
	tight := of(nil, spansOf(span(5, 20), span(1, 30), span(4, 9)))
	eight := of(nil, slices.Repeat(spansOf(span(1, 9)), 8))
	month := spansOf(span(10, 20))
	for _, c := range []struct {
		name        string
		f           api.Fading
		what, index int
		want        api.Span
	}{
		{"example of the reference 0", cards(), api.WhatRef, 0, span(60, 80)},
		{"example of the reference 1", cards(), api.WhatRef, 1, span(150, 170)},
		{"example of the reference 2", cards(), api.WhatRef, 2, span(271, 300)},
		{"example of the sample 0", cards(), api.WhatSample, 0, span(101, 209)},
		{"example of the sample 1", cards(), api.WhatSample, 1, span(181, 1<<24)},
		{"the sample 1 had faded", cards(sample(3, 1, true)), api.WhatSample, 1, span(181, 299)},
		{"a sample of which nothing is known", unseen(), api.WhatSample, 1, span(1, 1<<24)},
		{"the least of rising ones", tight, api.WhatRef, 0, span(5, 7)},
		{"one between rising ones", tight, api.WhatRef, 1, span(6, 8)},
		{"the greatest of rising ones", tight, api.WhatRef, 2, span(7, 9)},
		{"the least of eight", eight, api.WhatRef, 0, span(1, 2)},
		{"the greatest of eight", eight, api.WhatRef, 7, span(8, 9)},
		{"the greatest reference", of(nil, spansOf(span(1<<24, 1<<24))), api.WhatRef, 0, span(1<<24, 1<<24)},
		{"two neighbours", of(nil, spansOf(span(5, 5), span(5, 6))), api.WhatRef, 1, span(6, 6)},
		{"a reference that has faded", of(month, spansOf(span(1, 99)), ref(1, 0, true)), api.WhatRef, 0, span(1, 20)},
		{"a reference that has not", of(month, spansOf(span(1, 99)), ref(1, 0, false)), api.WhatRef, 0, span(11, 99)},
		{"one before a reference that has faded", of(month, spansOf(span(1, 99), span(1, 99)), ref(1, 1, true)), api.WhatRef, 0, span(1, 19)},
		{"one after a reference that has not", of(month, spansOf(span(1, 99), span(1, 99)), ref(1, 0, false)), api.WhatRef, 1, span(12, 99)},
		{"a sample in the light that a reference bounds", of(month, spansOf(span(1, 13)), ref(1, 0, false), sample(1, 0, true)), api.WhatSample, 0, span(1, 12)},
		{"a sample in the light that another sample bounds", of(spansOf(span(0, 9), span(0, 9)), nil, sample(1, 0, false), sample(2, 0, true), sample(2, 1, false)), api.WhatSample, 1, span(2, 1<<24)},
		{"a sample that bears the most light", bright(sample(12, 5, false)), api.WhatSample, 5, span(12*api.MaxLight+1, 1<<24)},
		{"a sample that does not bear it", bright(sample(12, 5, true)), api.WhatSample, 5, span(1, 12*api.MaxLight)},
		{"a sample that was looked at after no months", of(month, nil, sample(0, 0, false)), api.WhatSample, 0, span(1, 1<<24)},
	} {
		if s, e := Fast(c.f, c.what, c.index); s != c.want || e != api.OK {
			t.Errorf("%s: Fast = %v, error %d, not %v", c.name, s, e, c.want)
		}
	}
}

// P12.3: the chapter's examples; a grade is how many references take no more light than the sample does, none and all of them included.
func TestGrade(t *testing.T) {
	month := spansOf(span(10, 20))
	eight := slices.Repeat(spansOf(span(1, api.MaxFast)), 8)
	for _, c := range []struct {
		name   string
		f      api.Fading
		sample int
		want   api.Span
	}{
		{"example of the sample 0", cards(), 0, span(1, 2)},
		{"example of the sample 1", cards(), 1, span(2, 3)},
		{"example of the sample 1 that had faded", cards(sample(3, 1, true)), 1, span(2, 2)},
		{"no checks", unseen(), 0, span(0, 3)},
		{"no references", of(month, nil, sample(1, 1, true)), 1, span(0, 0)},
		{"before all references", of(month, spansOf(span(21, 30)), sample(1, 0, true)), 0, span(0, 0)},
		{"at the reference", of(spansOf(span(20, 20)), spansOf(span(20, 20)), sample(1, 0, true)), 0, span(0, 1)},
		{"just more than the reference", of(spansOf(span(20, 20)), spansOf(span(20, 20)), sample(1, 0, false)), 0, span(1, 1)},
		{"perhaps as much as the reference", of(spansOf(span(20, 20)), spansOf(span(21, 21)), sample(1, 0, false)), 0, span(1, 1)},
		{"perhaps less than the reference", of(spansOf(span(20, 20)), spansOf(span(22, 22)), sample(1, 0, false)), 0, span(0, 1)},
		{"nothing between two references but the first one", of(spansOf(span(19, 20)), spansOf(span(20, 20), span(21, 21)), sample(1, 0, false)), 0, span(1, 2)},
		{"the sample takes less than a reference, whatever light there was", of(month, spansOf(span(1, 99)), sample(1, 0, true), ref(1, 0, false)), 0, span(0, 0)},
		{"the sample takes more than a reference, whatever light there was", of(month, spansOf(span(1, 99)), sample(1, 0, false), ref(1, 0, true)), 0, span(1, 1)},
		{"a month may have brought nothing", of(spansOf(span(5, 9), span(0, 9)), spansOf(span(1, 99)), sample(2, 0, true), ref(1, 0, false)), 0, span(0, 1)},
		{"between two of eight", api.Fading{Months: month, Refs: eight, Samples: 1, Checks: []api.Check{ref(1, 2, true), ref(1, 3, false), sample(1, 0, true)}}, 0, span(0, 3)},
		{"any of eight", api.Fading{Refs: eight, Samples: 1}, 0, span(0, 8)},
		{"more than all of eight", bright(ref(12, 7, true), sample(12, 3, false)), 3, span(8, 8)},
		{"another sample makes no difference", unseen(sample(1, 1, true)), 0, span(0, 3)},
	} {
		if s, e := Grade(c.f, c.sample); s != c.want || e != api.OK {
			t.Errorf("%s: Grade = %v, error %d, not %v", c.name, s, e, c.want)
		}
	}
}

// P12.4: the chapter's examples; the first check counts that cannot be beside those before it, whatever comes after it.
func TestClash(t *testing.T) {
	same := of(nil, spansOf(span(5, 5), span(5, 5)))
	for _, c := range []struct {
		name string
		f    api.Fading
		want int
		e    api.Errno
	}{
		{"example", cards(), 0, api.ErrNone},
		{"example with one more", cards(ref(2, 0, false)), 7, api.OK},
		{"what comes later", cards(ref(2, 0, false), ref(0, 0, true), ref(3, 0, false)), 7, api.OK},
		{"no checks", unseen(), 0, api.ErrNone},
		{"nothing at all", api.Fading{}, 0, api.ErrNone},
		{"a reference fades in the dark", unseen(ref(0, 0, true)), 0, api.OK},
		{"a sample fades in the dark", unseen(ref(0, 2, false), sample(0, 0, true)), 1, api.OK},
		{"nothing fades in the dark", unseen(ref(0, 0, false), sample(0, 0, false)), 0, api.ErrNone},
		{"a reference fades too early", unseen(ref(1, 1, true)), 0, api.OK},
		{"a reference fades too late", unseen(ref(3, 2, true), ref(2, 1, false)), 1, api.OK},
		{"what has faded has again", unseen(sample(1, 0, true), sample(2, 0, true), sample(3, 0, true)), 0, api.ErrNone},
		{"what has faded has not", unseen(sample(1, 0, true), sample(2, 0, false)), 1, api.OK},
		{"what has not faded had", unseen(sample(2, 0, false), sample(1, 0, true)), 1, api.OK},
		{"two samples need not be alike", unseen(sample(2, 0, false), sample(1, 1, true)), 0, api.ErrNone},
		{"a reference after one that takes more", of(spansOf(span(1, 99)), spansOf(span(1, 99), span(1, 99)), ref(1, 1, true), ref(1, 0, false)), 1, api.OK},
		{"a reference before one that takes more", of(spansOf(span(1, 99)), spansOf(span(1, 99), span(1, 99)), ref(1, 0, true), ref(1, 1, false)), 0, api.ErrNone},
		{"too little light for three", of(spansOf(span(0, 2)), slices.Repeat(spansOf(span(1, 99)), 3), ref(1, 2, false), ref(1, 2, true)), 1, api.OK},
		{"the least light that three need", of(spansOf(span(0, 3)), slices.Repeat(spansOf(span(1, 99)), 3), ref(1, 2, true)), 0, api.ErrNone},
		{"less light than three need", of(spansOf(span(0, 2)), slices.Repeat(spansOf(span(1, 99)), 3), ref(1, 2, true)), 0, api.OK},
		{"the last one of forty", api.Fading{Months: spansOf(span(1, 1)), Samples: 1, Checks: append(slices.Repeat([]api.Check{sample(1, 0, true)}, 39), sample(1, 0, false))}, 39, api.OK},
		{"a sample that no light could fade", bright(sample(12, 0, false)), 0, api.ErrNone},
		{"references that take the same", same, 0, api.ErrState},
		{"references that take the same, and a look that clashes", of(nil, same.Refs, ref(0, 0, true)), 0, api.ErrState},
		{"references that take less", of(nil, spansOf(span(5, 9), span(1, 99), span(1, 6))), 0, api.ErrState},
		{"references that just can", of(nil, spansOf(span(5, 9), span(1, 99), span(1, 7))), 0, api.ErrNone},
		{"seven numbers for eight", of(nil, slices.Repeat(spansOf(span(1, 7)), 8)), 0, api.ErrState},
		{"eight numbers for eight", of(nil, slices.Repeat(spansOf(span(1, 8)), 8)), 0, api.ErrNone},
	} {
		if n, e := Clash(c.f); n != c.want || e != c.e {
			t.Errorf("%s: Clash = %d, error %d, not %d, error %d", c.name, n, e, c.want, c.e)
		}
	}
}

// P12.5: the chapter's examples; the least light that the months can bring, and the most that can lack, count; what surely has faded needs no month.
func TestUntil(t *testing.T) {
	dark := of(nil, spansOf(span(60, 80), span(150, 170)))
	for _, c := range []struct {
		name string
		f    api.Fading
		ref  int
		more api.Span
		want int
		e    api.Errno
	}{
		{"example with 50 to 60", cards(), 2, span(50, 60), 1, api.OK},
		{"example with 0 to 60", cards(), 2, span(0, 60), 0, api.ErrNone},
		{"just enough in one", cards(), 2, span(30, 30), 1, api.OK},
		{"just not enough in one", cards(), 2, span(29, 1000), 2, api.OK},
		{"just enough in two", cards(), 2, span(15, 15), 2, api.OK},
		{"one by one", cards(), 2, span(1, api.MaxLight), 30, api.OK},
		{"it was seen faded", cards(), 1, span(0, 0), 0, api.OK},
		{"it surely has faded, though nobody looked", unseen(), 1, span(0, 0), 0, api.OK},
		{"it has just faded", of(spansOf(span(70, 90)), spansOf(span(1, 70))), 0, span(0, 0), 0, api.OK},
		{"it may lack a little", of(spansOf(span(70, 90)), spansOf(span(1, 71))), 0, span(0, 0), 0, api.ErrNone},
		{"it may lack a little that comes", of(spansOf(span(70, 90)), spansOf(span(1, 71))), 0, span(1, 1), 1, api.OK},
		{"no months before", dark, 1, span(50, 60), 4, api.OK},
		{"no light is enough", dark, 0, span(0, api.MaxLight), 0, api.ErrNone},
		{"a look makes it shorter", of(spansOf(span(10, 90)), spansOf(span(1, 99), span(80, 100)), ref(1, 0, true)), 1, span(1, 1), 90, api.OK},
		{"what it takes and the light hang together", of(spansOf(span(10, 90), span(20, 20)), spansOf(span(1, 99)), ref(1, 0, true)), 0, span(0, 0), 0, api.OK},
		{"and by way of a reference that takes more", of(spansOf(span(10, 90)), spansOf(span(1, 99), span(1, 99)), ref(1, 1, true)), 0, span(0, 0), 0, api.OK},
		{"an earlier look than the last", of(spansOf(span(10, 90), span(0, 20)), spansOf(span(50, 60)), ref(1, 0, false)), 0, span(7, 7), 8, api.OK},
		{"the most months", of(nil, spansOf(span(1, api.MaxFast))), 0, span(1, 1), api.MaxFast, api.OK},
		{"the most light", of(nil, spansOf(span(1, api.MaxFast))), 0, span(api.MaxLight, api.MaxLight), 17, api.OK},
	} {
		if n, e := Until(c.f, c.ref, c.more); n != c.want || e != c.e {
			t.Errorf("%s: Until = %d, error %d, not %d, error %d", c.name, n, e, c.want, c.e)
		}
	}
}

// query is what all functions are asked of cards.
type query struct {
	month, what, index, sample, ref int
	more                            api.Span
}

// expectError expects that all functions with further arguments return an error, and nothing else.
func expectError(t *testing.T, name string, f api.Fading, q query, want api.Errno) {
	t.Helper()
	if s, e := Light(f, q.month); s != span(0, 0) || e != want {
		t.Errorf("%s: Light = %v, error %d, not %d", name, s, e, want)
	}
	if s, e := Fast(f, q.what, q.index); s != span(0, 0) || e != want {
		t.Errorf("%s: Fast = %v, error %d, not %d", name, s, e, want)
	}
	if s, e := Grade(f, q.sample); s != span(0, 0) || e != want {
		t.Errorf("%s: Grade = %v, error %d, not %d", name, s, e, want)
	}
	if n, e := Until(f, q.ref, q.more); n != 0 || e != want {
		t.Errorf("%s: Until = %d, error %d, not %d", name, n, e, want)
	}
}

// expectErrArg expects that cards are not valid, whatever is asked of them.
func expectErrArg(t *testing.T, name string, f api.Fading) {
	t.Helper()
	expectError(t, name, f, query{}, api.ErrArg)
	expectError(t, name+", and nothing else is valid", f, query{-1, 2, -1, -1, -1, span(-1, -2)}, api.ErrArg)
	if n, e := Clash(f); n != 0 || e != api.ErrArg {
		t.Errorf("%s: Clash = %d, error %d", name, n, e)
	}
}

// expectValid expects that cards are valid, and some truth fits them.
func expectValid(t *testing.T, name string, f api.Fading) {
	t.Helper()
	if s, e := Light(f, 0); s != span(0, 0) || e != api.OK {
		t.Errorf("%s: Light = %v, error %d", name, s, e)
	}
	if _, e := Clash(f); e != api.ErrNone {
		t.Errorf("%s: Clash = error %d", name, e)
	}
}

// P12.1 to P12.5, R1: months and references that are not valid are ErrArg, whichever one is wrong, before all other errors; both ends of what is valid are.
func TestErrArgOfSpans(t *testing.T) {
	wrongMonths := spansOf(span(-1, 0), span(-1, -1), span(0, api.MaxLight+1), span(api.MaxLight+1, api.MaxLight+1), span(2, 1), span(1, 0), span(math.MinInt, math.MaxInt), span(math.MaxInt, math.MinInt))
	wrongRefs := spansOf(span(0, 5), span(0, 0), span(-3, 5), span(1, api.MaxFast+1), span(api.MaxFast+1, api.MaxFast+1), span(2, 1), span(math.MinInt, math.MaxInt), span(math.MaxInt, math.MinInt))
	for i := range 3 {
		for _, s := range wrongMonths {
			f, g := cards(), cards(ref(2, 0, false))
			f.Months[i], g.Months[i] = s, s
			expectErrArg(t, "a wrong month", f)
			expectErrArg(t, "a wrong month, and checks that clash", g)
		}
		for _, s := range wrongRefs {
			f, g := cards(), cards(ref(2, 0, false))
			f.Refs[i], g.Refs[i] = s, s
			expectErrArg(t, "a wrong reference", f)
			expectErrArg(t, "a wrong reference, and checks that clash", g)
		}
		f := unseen()
		f.Months[i], f.Refs[i] = span(0, api.MaxLight), span(1, api.MaxFast)
		expectValid(t, "the widest of both", f)
		f.Months[i] = span(0, 0)
		expectValid(t, "the least month", f)
		f.Months[i] = span(api.MaxLight, api.MaxLight)
		expectValid(t, "the greatest month", f)
	}
	expectValid(t, "the least reference", of(nil, spansOf(span(1, 1))))
	expectValid(t, "the greatest reference", of(nil, spansOf(span(api.MaxFast, api.MaxFast))))
}

// P12.1 to P12.5, R1, R8: checks that are not valid are ErrArg, whichever one is wrong; both ends of what is valid are.
func TestErrArgOfChecks(t *testing.T) {
	for _, wrong := range []api.Check{
		ref(-1, 0, true), ref(4, 0, true), ref(math.MinInt, 0, true), ref(math.MaxInt, 0, true),
		ref(1, -1, true), ref(1, 3, true), ref(1, math.MinInt, true), ref(1, math.MaxInt, true),
		sample(-1, 0, false), sample(4, 0, false), sample(1, -1, false), sample(1, 2, false), sample(1, math.MinInt, false), sample(1, math.MaxInt, false),
		{What: -1}, {What: 2}, {What: math.MinInt}, {What: math.MaxInt},
	} {
		expectErrArg(t, "a wrong check at last", cards(wrong))
		expectErrArg(t, "a wrong check after one that clashes", cards(ref(2, 0, false), wrong))
		for i := range cards().Checks {
			f := cards()
			f.Checks[i] = wrong
			expectErrArg(t, "a wrong check", f)
		}
	}
	expectValid(t, "the ends of what is valid", cards(ref(3, 0, true), ref(3, 2, false), sample(0, 0, false), sample(3, 1, false)))
	for name, f := range map[string]api.Fading{
		"no reference":   {Months: spansOf(span(1, 1)), Samples: 1, Checks: []api.Check{ref(1, 0, true)}},
		"no sample":      {Months: spansOf(span(1, 1)), Refs: spansOf(span(1, 1)), Checks: []api.Check{sample(1, 0, true)}},
		"no month":       {Samples: 1, Checks: []api.Check{sample(1, 0, false)}},
		"no such sample": {Refs: spansOf(span(1, 1), span(2, 2)), Samples: 1, Checks: []api.Check{sample(0, 1, false)}},
		"no such ref":    {Refs: spansOf(span(1, 1)), Samples: 2, Checks: []api.Check{ref(0, 1, false)}},
	} {
		expectErrArg(t, name, f)
	}
	expectValid(t, "a check after no months", api.Fading{Samples: 1, Checks: []api.Check{sample(0, 0, false)}})
}

// P12.1 to P12.5, R7: 12 months, 8 references, 6 samples and 40 checks are valid, and one more of each is not.
func TestHowMany(t *testing.T) {
	expectValid(t, "as many as can be", full())
	f := full()
	f.Months = append(f.Months, span(0, 0))
	expectErrArg(t, "13 months", f)
	f = full()
	f.Refs = append(f.Refs, span(1, 1))
	expectErrArg(t, "9 references", f)
	f = full()
	f.Checks = append(f.Checks, ref(0, 0, false))
	expectErrArg(t, "41 checks", f)
	for _, samples := range []int{-1, 7, math.MinInt, math.MaxInt} {
		f = full()
		f.Samples = samples
		expectErrArg(t, "a wrong number of samples", f)
		f.Checks = []api.Check{sample(0, 0, false)}
		expectErrArg(t, "a wrong number of samples, and one was looked at", f)
	}
	f = full()
	f.Samples = 0
	expectValid(t, "no samples", f)
}

// P12.1 to P12.5, R1: an argument that is not valid is ErrRange, before ErrState and ErrNone.
func TestErrRange(t *testing.T) {
	for _, f := range []api.Fading{cards(), cards(ref(2, 0, false)), unseen()} {
		for _, wrong := range []query{
			{4, api.WhatRef, 3, 2, 3, span(1, 1)},
			{-1, api.WhatRef, -1, -1, -1, span(1, 1)},
			{math.MaxInt, api.WhatSample, 2, math.MaxInt, math.MaxInt, span(1, 1)},
			{math.MinInt, api.WhatSample, -1, math.MinInt, math.MinInt, span(1, 1)},
			{5, 2, 0, 3, 2, span(-1, 1)},
			{5, -1, 0, 3, 2, span(2, 1)},
			{5, math.MaxInt, 0, 3, 2, span(0, api.MaxLight+1)},
			{5, math.MinInt, 0, 3, 2, span(math.MinInt, math.MaxInt)},
			{5, api.WhatSample, math.MinInt, 3, 2, span(math.MaxInt, math.MinInt)},
			{5, api.WhatRef, math.MaxInt, 3, 3, span(0, 0)},
		} {
			expectError(t, "a wrong argument", f, wrong, api.ErrRange)
		}
	}
	expectError(t, "no references and no samples", api.Fading{}, query{month: 1}, api.ErrRange)
	expectError(t, "no references and no samples, but a span", api.Fading{}, query{month: -1, what: api.WhatSample, more: span(1, 1)}, api.ErrRange)
}

// P12.1 to P12.5, R1: if no truth fits, there is ErrState, before ErrNone.
func TestErrState(t *testing.T) {
	for name, f := range map[string]api.Fading{
		"checks that clash":                          cards(ref(2, 0, false)),
		"a first check that cannot be":               unseen(ref(0, 0, true)),
		"references that take the same":              {Months: spansOf(span(1, 1)), Refs: spansOf(span(5, 5), span(5, 5)), Samples: 1},
		"references that take the same, and a check": {Refs: spansOf(span(5, 5), span(5, 5)), Samples: 1, Checks: []api.Check{ref(0, 1, false)}},
	} {
		expectError(t, name, f, query{}, api.ErrState)
		expectError(t, name, f, query{what: api.WhatSample, ref: 1, more: span(1, 1)}, api.ErrState)
		expectError(t, name, f, query{month: len(f.Months), index: 1, ref: 1}, api.ErrState)
	}
}

// R4: no argument is changed.
func TestArguments(t *testing.T) {
	f := cards()
	for i := range 2 {
		Light(f, i)
		Fast(f, api.WhatRef, i)
		Grade(f, i)
		Clash(f)
		Until(f, i, span(1, 2))
	}
	was := cards()
	if !slices.Equal(f.Months, was.Months) || !slices.Equal(f.Refs, was.Refs) || !slices.Equal(f.Checks, was.Checks) {
		t.Errorf("the cards are changed: %v", f)
	}
}

// R3: nil lists and empty ones are the same.
func TestNil(t *testing.T) {
	empty := api.Fading{Months: []api.Span{}, Refs: cards().Refs[:0], Samples: 1, Checks: []api.Check{}}
	for _, f := range []api.Fading{{Samples: 1}, empty} {
		expectValid(t, "nothing but a sample", f)
		if s, e := Fast(f, api.WhatSample, 0); s != span(1, api.MaxFast) || e != api.OK {
			t.Errorf("Fast = %v, error %d", s, e)
		}
		if s, e := Grade(f, 0); s != span(0, 0) || e != api.OK {
			t.Errorf("Grade = %v, error %d", s, e)
		}
		if n, e := Until(f, 0, span(1, 1)); n != 0 || e != api.ErrRange {
			t.Errorf("Until = %d, error %d", n, e)
		}
	}
}
