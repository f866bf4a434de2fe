package fire

import (
	"math"
	"slices"
	"testing"

	"pencilworks/api"
)

func span(lo, hi int) api.Span { return api.Span{Lo: lo, Hi: hi} }

func place(gain, off api.Span) api.Place { return api.Place{Gain: gain, Off: off} }

// example returns the kiln of the chapter's examples.
func example() api.Kiln {
	return api.Kiln{Places: []api.Place{place(span(900, 1000), span(-10, 10)), place(span(1000, 1100), span(0, 20))}, Err: 10, Ramp: 300, Step: 100}
}

// oneOf returns a kiln with one place, whose gain and off are known; and how much it errs.
func oneOf(gain, off, err int) api.Kiln {
	return api.Kiln{Places: []api.Place{place(span(gain, gain), span(off, off))}, Err: err, Ramp: 300, Step: 100}
}

// exact returns a kiln with one place, that has just the heat that is set.
func exact() api.Kiln { return oneOf(1000, 0, 0) }

// kilnWith returns a kiln with a change.
func kilnWith(k api.Kiln, change func(k *api.Kiln)) api.Kiln {
	k.Places = slices.Clone(k.Places)
	change(&k)
	return k
}

// fireA and fireB return the fires of the examples.
func fireA() api.Fire {
	return api.Fire{Cool: 150, Soak: 700, Top: 1000, Hold: 2, Rise: 350, Fall: 400}
}

func fireB() api.Fire { return with(func(f *api.Fire) { f.Top, f.Rise = 1100, 400 }) }

// with returns the fire A with a change.
func with(change func(f *api.Fire)) api.Fire {
	f := fireA()
	change(&f)
	return f
}

// anyhow returns a fire that hardly asks for anything.
func anyhow() api.Fire {
	return api.Fire{Cool: 0, Soak: 0, Top: api.MaxLead, Hold: 1, Rise: api.MaxLead, Fall: api.MaxLead}
}

// warm returns a fire that asks for hardly more.
func warm() api.Fire {
	f := anyhow()
	f.Cool, f.Soak = 200, 200
	return f
}

// program returns the program of the examples.
func program() []int { return []int{100, 400, 700, 900, 900, 600, 300, 100} }

// P3.1: the chapter's examples, the rounding below 0 and above, what cannot be below 0, and the ends of all numbers.
func TestHeat(t *testing.T) {
	widest := api.Kiln{Places: []api.Place{place(span(500, 1500), span(-200, 200))}, Err: 100, Ramp: 1, Step: 50}
	for _, c := range []struct {
		name       string
		k          api.Kiln
		place, set int
		want       api.Span
	}{
		{"example", example(), 0, 800, span(701, 820)},
		{"example, the other place", example(), 1, 800, span(790, 911)},
		{"example, nothing set", example(), 1, 0, span(0, 31)},
		{"nothing set, and an off below 0", example(), 0, 0, span(-10, 20)},
		{"less set than the kiln errs", example(), 0, 9, span(-10, 29)},
		{"as much set as the kiln errs", example(), 0, 10, span(-10, 30)},
		{"a fraction below 0 is rounded down", example(), 0, 11, span(-10, 31)},
		{"a greater fraction below 0", example(), 0, 21, span(-1, 41)},
		{"exact", exact(), 0, 777, span(777, 777)},
		{"both ends rounded", oneOf(999, 0, 0), 0, 500, span(499, 500)},
		{"both ends rounded below 0", oneOf(999, -200, 0), 0, 100, span(-101, -100)},
		{"a thousandth too much", oneOf(1001, 0, 0), 0, 1, span(1, 2)},
		{"just an integer", oneOf(750, 5, 0), 0, 4, span(8, 8)},
		{"the widest spans, nothing set", widest, 0, 0, span(-200, 350)},
		{"the widest spans, all set", widest, 0, 2000, span(750, 3350)},
		{"the kiln may be hotter than what can be set", oneOf(1000, 0, 100), 0, 2000, span(1900, 2100)},
	} {
		if got, e := Heat(c.k, c.place, c.set); got != c.want || e != api.OK {
			t.Errorf("%s: Heat = %v, error %d, not %v", c.name, got, e, c.want)
		}
	}
}

// P3.3: the chapter's examples; each rule where it just is kept, and where it just is not; which rule and which hour of several.
func TestWhy(t *testing.T) {
	tooRise := []int{100, 400, 700, 800, 800, 500, 200, 100}
	hold := func(n int) api.Fire { return with(func(f *api.Fire) { f.Hold = n }) }
	for _, c := range []struct {
		name       string
		k          api.Kiln
		f          api.Fire
		program    []int
		place      int
		rule, hour int // none if the rule is 0
	}{
		{"example", example(), fireA(), program(), 1, api.RuleTop, 3},
		{"example, the other place", example(), fireA(), program(), 0, 0, 0},
		{"example, the other fire", example(), fireB(), program(), 1, 0, 0},
		{"example, the other program", example(), fireA(), tooRise, 1, api.RuleRise, 1},
		{"example, the other program and place", example(), fireA(), tooRise, 0, 0, 0},

		{"begin just so", exact(), fireA(), []int{150, 500, 700, 700, 300, 150}, 0, 0, 0},
		{"begin too hot", exact(), fireA(), []int{151, 500, 700, 700, 300, 150}, 0, api.RuleBegin, 0},
		{"begin too hot by a fraction", oneOf(1001, 0, 0), fireA(), []int{150, 400, 700, 700, 400, 100}, 0, api.RuleBegin, 0},
		{"begin too hot by what the kiln errs", oneOf(1000, 0, 1), fireA(), []int{150, 400, 701, 701, 400, 100}, 0, api.RuleBegin, 0},
		{"begin too hot by the off", oneOf(1000, 1, 0), fireA(), []int{150, 400, 700, 700, 400, 100}, 0, api.RuleBegin, 0},
		{"begin just so, with an off below 0", oneOf(1000, -1, 0), fireA(), []int{151, 401, 701, 701, 401, 151}, 0, 0, 0},

		{"top just so", exact(), fireA(), []int{100, 400, 700, 1000, 600, 200, 100}, 0, 0, 0},
		{"top too hot", exact(), fireA(), []int{100, 400, 700, 1001, 700, 300, 100}, 0, api.RuleTop, 3},
		{"top too hot by a fraction", oneOf(1001, 0, 0), fireA(), []int{100, 400, 700, 1000, 700, 300, 100}, 0, api.RuleTop, 3},
		{"top too hot in the first hour, which may be as hot", exact(), with(func(f *api.Fire) { f.Cool, f.Soak, f.Top = 700, 700, 700 }), []int{701, 700, 700}, 0, api.RuleBegin, 0},
		{"the first hour that is too hot", exact(), fireA(), []int{100, 400, 700, 1001, 1300, 1001, 700, 300, 100}, 0, api.RuleTop, 3},
		{"top too hot in the last hour", exact(), fireA(), []int{100, 400, 700, 700, 1001}, 0, api.RuleTop, 4},

		{"rise just so", exact(), fireA(), []int{0, 350, 700, 700, 350, 0}, 0, 0, 0},
		{"rise too fast", exact(), fireA(), []int{0, 350, 701, 701, 350, 0}, 0, api.RuleRise, 2},
		{"rise too fast by a fraction", oneOf(1001, 0, 0), fireA(), []int{0, 350, 700, 700, 350, 0}, 0, api.RuleRise, 1},
		{"rise too fast, whatever the off is", oneOf(1000, -200, 0), fireA(), []int{0, 351, 700, 900, 900, 500, 200}, 0, api.RuleRise, 1},
		{"rise just so, with a gain that is not known", kilnWith(oneOf(1000, 0, 0), func(k *api.Kiln) { k.Places[0].Gain.Lo = 500 }), with(func(f *api.Fire) { f.Soak = 350 }), []int{0, 350, 700, 700, 350, 0}, 0, 0, 0},
		{"an off that is not known makes no difference to a rise", kilnWith(exact(), func(k *api.Kiln) { k.Places[0].Off = span(-100, 100) }), with(func(f *api.Fire) { f.Soak = 600 }), []int{50, 400, 700, 700, 300, 50}, 0, 0, 0},
		{"rise just so, by what the kiln errs", oneOf(1000, 0, 10), with(func(f *api.Fire) { f.Rise = 20 }), []int{100, 100}, 0, api.RuleHold, 0},
		{"rise too fast, by what the kiln errs", oneOf(1000, 0, 10), with(func(f *api.Fire) { f.Rise = 19 }), []int{100, 100}, 0, api.RuleRise, 1},
		{"rise just so, as no heat is below 0", oneOf(1000, 0, 10), with(func(f *api.Fire) { f.Rise = 15 }), []int{5, 5}, 0, api.RuleHold, 0},
		{"rise too fast, as no heat is below 0", oneOf(1000, 0, 10), with(func(f *api.Fire) { f.Rise = 14 }), []int{5, 5}, 0, api.RuleRise, 1},
		{"rise too fast while less is set", oneOf(1000, 0, 100), with(func(f *api.Fire) { f.Cool, f.Rise = 250, 198 }), []int{150, 149}, 0, api.RuleRise, 1},
		{"rise just so while less is set", oneOf(1000, 0, 100), with(func(f *api.Fire) { f.Cool, f.Rise = 250, 199 }), []int{150, 149}, 0, api.RuleHold, 0},
		{"the later one of the hours, the first of several", exact(), fireA(), []int{100, 100, 500, 100, 500, 700}, 0, api.RuleRise, 2},

		{"fall just so", exact(), fireA(), []int{100, 400, 700, 800, 400, 0}, 0, 0, 0},
		{"fall too fast", exact(), fireA(), []int{100, 400, 700, 801, 400, 100}, 0, api.RuleFall, 4},
		{"fall too fast by a fraction", oneOf(1001, 0, 0), fireA(), []int{100, 400, 700, 800, 400, 100}, 0, api.RuleFall, 4},
		{"fall too fast in the last hour", exact(), fireA(), []int{100, 400, 700, 700, 501, 100}, 0, api.RuleFall, 5},
		{"fall while more is set, by what the kiln errs", oneOf(1000, 0, 10), with(func(f *api.Fire) { f.Fall = 18 }), []int{100, 101}, 0, api.RuleFall, 1},
		{"fall just so while more is set", oneOf(1000, 0, 10), with(func(f *api.Fire) { f.Fall = 19 }), []int{100, 101}, 0, api.RuleHold, 0},
		{"fall too fast, as no heat is below 0", oneOf(1000, 0, 10), with(func(f *api.Fire) { f.Fall = 14 }), []int{5, 5}, 0, api.RuleFall, 1},

		{"held just so", exact(), hold(3), []int{100, 400, 700, 700, 700, 400, 100}, 0, 0, 0},
		{"held for too short", exact(), hold(4), []int{100, 400, 700, 700, 700, 400, 100}, 0, api.RuleHold, 0},
		{"held with a break", exact(), hold(3), []int{100, 400, 700, 700, 699, 700, 700, 400, 100}, 0, api.RuleHold, 0},
		{"held after a break", exact(), hold(3), []int{100, 400, 700, 699, 700, 700, 700, 400, 100}, 0, 0, 0},
		{"held before a break", exact(), hold(3), []int{100, 400, 700, 700, 700, 699, 700, 400, 100}, 0, 0, 0},
		{"held too cool by a fraction", oneOf(999, 0, 0), hold(1), []int{100, 400, 700, 400, 100}, 0, api.RuleHold, 0},
		{"held too cool by a fraction that is rounded up", oneOf(1001, 0, 0), hold(1), []int{100, 400, 699, 400, 100}, 0, api.RuleHold, 0},
		{"held too cool by what the kiln errs", oneOf(1000, 0, 1), hold(1), []int{100, 400, 700, 400, 100}, 0, api.RuleHold, 0},
		{"held too cool by the off", oneOf(1000, -1, 0), hold(1), []int{100, 400, 700, 400, 100}, 0, api.RuleHold, 0},
		{"held for as long as there are hours", exact(), with(func(f *api.Fire) { f.Cool, f.Hold = 700, 12 }), slices.Repeat([]int{700}, 12), 0, 0, 0},
		{"held for an hour more than there are", exact(), with(func(f *api.Fire) { f.Cool, f.Hold = 700, 12 }), slices.Repeat([]int{700}, 11), 0, api.RuleHold, 0},
		{"held below 0", oneOf(1000, -200, 0), with(func(f *api.Fire) { f.Cool, f.Soak, f.Hold = 0, 0, 1 }), []int{199}, 0, api.RuleHold, 0},
		{"held at 0", oneOf(1000, -200, 0), with(func(f *api.Fire) { f.Cool, f.Soak, f.Hold = 0, 0, 1 }), []int{200}, 0, 0, 0},

		{"end just so", exact(), fireA(), []int{100, 400, 700, 700, 400, 150}, 0, 0, 0},
		{"end too hot", exact(), fireA(), []int{100, 400, 700, 700, 400, 151}, 0, api.RuleEnd, 5},
		{"end too hot by a fraction", oneOf(1001, 0, 0), fireA(), []int{100, 400, 700, 700, 400, 150}, 0, api.RuleEnd, 5},
		{"end too hot in the second hour", exact(), with(func(f *api.Fire) { f.Soak, f.Hold = 150, 1 }), []int{150, 151}, 0, api.RuleEnd, 1},

		{"one hour", exact(), with(func(f *api.Fire) { f.Cool, f.Hold = 700, 1 }), []int{700}, 0, 0, 0},
		{"one hour, too hot at first and at last", exact(), with(func(f *api.Fire) { f.Cool, f.Hold = 699, 1 }), []int{700}, 0, api.RuleBegin, 0},
		{"one hour, without one before it", oneOf(1000, 0, 100), with(func(f *api.Fire) { f.Rise, f.Fall = 1, 1 }), []int{0}, 0, api.RuleHold, 0},
		{"all rules are broken", exact(), with(func(f *api.Fire) { f.Rise, f.Fall = 1, 1 }), []int{1500, 1300, 1500, 151}, 0, api.RuleBegin, 0},
		{"all but the first", exact(), with(func(f *api.Fire) { f.Rise, f.Fall, f.Hold = 1, 1, 3 }), []int{150, 1300, 100, 1500, 151}, 0, api.RuleTop, 1},
		{"a lesser rule in a later hour", exact(), fireA(), []int{0, 600, 0, 1001, 700, 400, 100}, 0, api.RuleTop, 3},
		{"rise before fall, though later", exact(), fireA(), []int{100, 400, 700, 200, 600, 300, 100}, 0, api.RuleRise, 4},
		{"fall before hold", exact(), fireA(), []int{100, 400, 600, 150, 100}, 0, api.RuleFall, 3},
		{"hold before end", exact(), fireA(), []int{100, 400, 600, 300, 200}, 0, api.RuleHold, 0},
		{"the longest program", exact(), with(func(f *api.Fire) { f.Cool = 700 }), append(slices.Repeat([]int{700}, 39), 701), 0, api.RuleEnd, 39},
	} {
		e := api.OK
		if c.rule == 0 {
			e = api.ErrNone
		}
		if rule, hour, f := Why(c.k, c.f, c.program, c.place); rule != c.rule || hour != c.hour || f != e {
			t.Errorf("%s: Why = %d, %d, error %d, not %d, %d, error %d", c.name, rule, hour, f, c.rule, c.hour, e)
		}
	}
}

// P3.2: the chapter's examples; no place, some, and all of them.
func TestCheck(t *testing.T) {
	eight := kilnWith(exact(), func(k *api.Kiln) {
		k.Places = slices.Repeat([]api.Place{place(span(1000, 1050), span(0, 0))}, 8)
		for _, n := range []int{1, 4, 7} {
			k.Places[n].Gain.Hi = 1120
		}
	})
	for _, c := range []struct {
		name    string
		k       api.Kiln
		f       api.Fire
		program []int
		want    []int
	}{
		{"example", example(), fireA(), program(), []int{1}},
		{"example, the other fire", example(), fireB(), program(), nil},
		{"too cold everywhere", example(), fireA(), []int{100}, []int{0, 1}},
		{"too cold at the first place", example(), with(func(f *api.Fire) { f.Soak, f.Top, f.Rise = 801, 1100, 400 }), program(), []int{0}},
		{"some of many places", eight, fireA(), program(), []int{1, 4, 7}},
		{"each of many places", eight, with(func(f *api.Fire) { f.Hold = 12 }), program(), []int{0, 1, 2, 3, 4, 5, 6, 7}},
		{"none of many places", eight, warm(), program(), nil},
		{"the longest program", exact(), with(func(f *api.Fire) { f.Cool, f.Soak = 0, 0 }), make([]int, 40), nil},
	} {
		if got, e := Check(c.k, c.f, c.program); !slices.Equal(got, c.want) || e != api.OK {
			t.Errorf("%s: Check = %v, error %d, not %v", c.name, got, e, c.want)
		}
	}
}

// slow returns a fire that takes 30 hours and those for which it is held, in steps of 50.
func slow(hold int) api.Fire {
	return api.Fire{Cool: 0, Soak: 750, Top: 750, Hold: hold, Rise: 50, Fall: 50}
}

// P3.4: the chapter's examples; each bound of a program; one that is just short enough, and one that just is not.
func TestPlan(t *testing.T) {
	by := func(step, ramp int) api.Kiln {
		return kilnWith(exact(), func(k *api.Kiln) { k.Step, k.Ramp = step, ramp })
	}
	eight := kilnWith(example(), func(k *api.Kiln) { k.Places = slices.Repeat(k.Places, 4) })
	up := []int{0, 50, 100, 150, 200, 250, 300, 350, 400, 450, 500, 550, 600, 650, 700}
	down := slices.Clone(up)
	slices.Reverse(down)
	for _, c := range []struct {
		name   string
		k      api.Kiln
		f      api.Fire
		places []int
		want   []int
	}{
		{"example", example(), fireA(), []int{0, 1}, []int{0, 200, 400, 600, 800, 800, 500, 200, 0}},
		{"example, one place", example(), fireA(), []int{0}, []int{0, 200, 500, 800, 800, 500, 200, 0}},
		{"many places", eight, fireA(), []int{0, 1, 2, 3, 4, 5, 6, 7}, []int{0, 200, 400, 600, 800, 800, 500, 200, 0}},
		{"some of many places", eight, fireA(), []int{2, 4}, []int{0, 200, 500, 800, 800, 500, 200, 0}},
		{"exact", exact(), fireA(), []int{0}, []int{100, 400, 700, 700, 400, 100}},
		{"held for an hour", exact(), with(func(f *api.Fire) { f.Hold = 1 }), []int{0}, []int{100, 400, 700, 400, 100}},
		{"one hour", exact(), with(func(f *api.Fire) { f.Cool, f.Hold = 700, 1 }), []int{0}, []int{700}},
		{"one hour, in which nothing is set", exact(), anyhow(), []int{0}, []int{0}},
		{"one hour, in which as much is set as can be", exact(), with(func(f *api.Fire) { f.Cool, f.Soak, f.Top, f.Hold = 2000, 2000, 2000, 1 }), []int{0}, []int{2000}},
		{"held for as long as can be", exact(), with(func(f *api.Fire) { f.Cool, f.Hold = 700, 12 }), []int{0}, slices.Repeat([]int{700}, 12)},
		{"hotter than can be set", exact(), with(func(f *api.Fire) { f.Soak, f.Top = 2001, 4000 }), []int{0}, nil},
		{"hotter than can be set in such steps", by(1500, 2000), with(func(f *api.Fire) { f.Soak, f.Top, f.Rise, f.Fall = 1501, 4000, 4000, 4000 }), []int{0}, nil},
		{"no step is hot enough, and not too hot", exact(), with(func(f *api.Fire) { f.Soak, f.Top = 701, 799 }), []int{0}, nil},
		{"a step is just hot enough", exact(), with(func(f *api.Fire) { f.Soak, f.Top = 700, 700 }), []int{0}, []int{100, 400, 700, 700, 400, 100}},
		{"steps do not begin anew", by(150, 300), fireA(), []int{0}, []int{150, 450, 750, 750, 450, 150}},
		{"a single step up, and down", by(2000, 2000), api.Fire{Cool: 0, Soak: 2000, Top: 2000, Hold: 1, Rise: 2000, Fall: 2000}, []int{0}, []int{0, 2000, 0}},
		{"a step that the ramp does not allow", by(2000, 1999), api.Fire{Cool: 0, Soak: 2000, Top: 2000, Hold: 1, Rise: 2000, Fall: 2000}, []int{0}, nil},
		{"the ramp upward", by(100, 200), with(func(f *api.Fire) { f.Hold = 1 }), []int{0}, []int{100, 300, 500, 700, 500, 300, 100}},
		{"the rise", exact(), with(func(f *api.Fire) { f.Rise = 200 }), []int{0}, []int{100, 300, 500, 700, 700, 400, 100}},
		{"the rise just is too little", exact(), with(func(f *api.Fire) { f.Rise = 99 }), []int{0}, nil},
		{"the fall", exact(), with(func(f *api.Fire) { f.Fall = 100 }), []int{0}, []int{100, 400, 700, 700, 600, 500, 400, 300, 200, 100}},
		{"the fall just is too little", exact(), with(func(f *api.Fire) { f.Fall = 99 }), []int{0}, nil},
		{"the rise, with what the kiln errs", oneOf(1000, 0, 100), with(func(f *api.Fire) { f.Cool, f.Soak, f.Rise = 500, 500, 400 }), []int{0}, []int{400, 600, 600, 400}},
		{"the rise just is too little for what the kiln errs", oneOf(1000, 0, 100), with(func(f *api.Fire) { f.Cool, f.Soak, f.Rise = 500, 500, 399 }), []int{0}, []int{400, 500, 600, 600, 400}},
		{"never cool", oneOf(1000, 151, 0), fireA(), []int{0}, nil},
		{"just cool enough", oneOf(1000, 150, 0), fireA(), []int{0}, []int{0, 300, 600, 600, 300, 0}},
		{"as many hours as there can be", by(50, 300), slow(10), []int{0}, slices.Concat(up, slices.Repeat([]int{750}, 10), down)},
		{"one hour too many", by(50, 300), slow(11), []int{0}, nil},
		{"the first of several of the same length", by(50, 250), with(func(f *api.Fire) { f.Hold = 1 }), []int{0}, []int{0, 200, 450, 700, 450, 200, 0}},
	} {
		e := api.OK
		if c.want == nil {
			e = api.ErrNone
		}
		if got, f := Plan(c.k, c.f, c.places); !slices.Equal(got, c.want) || f != e {
			t.Errorf("%s: Plan = %v, error %d, not %v, error %d", c.name, got, f, c.want, e)
		}
	}
}

// between returns a fire for places where leads are surely from one heat to another one when the examples' program is hottest.
func between(soak, top int) api.Fire {
	return api.Fire{Cool: 150, Soak: soak, Top: top, Hold: 2, Rise: api.MaxLead, Fall: api.MaxLead}
}

// P3.5: the chapter's examples; batches that must make room for others, those that cannot stand, and which of equal lists is first.
func TestStand(t *testing.T) {
	const none = api.NoPlace
	three := kilnWith(exact(), func(k *api.Kiln) {
		k.Places = []api.Place{place(span(1000, 1000), span(0, 0)), place(span(1100, 1100), span(0, 0)), place(span(1200, 1200), span(0, 0))}
	}) // 900, 990 and 1080 hot
	eight := kilnWith(exact(), func(k *api.Kiln) { k.Places = slices.Repeat(k.Places, 8) })
	cold := between(150, 500)
	for _, c := range []struct {
		name string
		k    api.Kiln
		l    []api.Fire
		want []int
	}{
		{"example", example(), []api.Fire{fireA(), fireB()}, []int{0, 1}},
		{"example, the other way round", example(), []api.Fire{fireB(), fireA()}, []int{1, 0}},
		{"example, twice the same", example(), []api.Fire{fireA(), fireA()}, []int{0, none}},
		{"no batches", example(), nil, nil},
		{"no batches, but a list", example(), []api.Fire{}, nil},
		{"a batch that cannot stand", example(), []api.Fire{cold}, []int{none}},
		{"a batch that cannot stand, and others", example(), []api.Fire{cold, fireB(), cold, fireA()}, []int{none, 1, none, 0}},
		{"more batches than places", example(), []api.Fire{fireB(), fireB(), fireB()}, []int{0, 1, none}},
		{"more places than batches", eight, []api.Fire{fireA(), fireA()}, []int{0, 1}},
		{"as many batches and places as can be", eight, slices.Repeat([]api.Fire{fireA()}, 8), []int{0, 1, 2, 3, 4, 5, 6, 7}},
		{"one place for many", exact(), slices.Repeat([]api.Fire{fireA()}, 8), []int{0, none, none, none, none, none, none, none}},
		{"the last one alone can stand", exact(), append(slices.Repeat([]api.Fire{cold}, 7), fireA()), []int{none, none, none, none, none, none, none, 0}},
		{"one makes room", three, []api.Fire{between(900, 1080), between(900, 900)}, []int{1, 0}},
		{"two make room", three, []api.Fire{between(900, 1080), between(900, 990), between(900, 900)}, []int{2, 1, 0}},
		{"each has its place", three, []api.Fire{between(1080, 1080), between(900, 900), between(990, 990)}, []int{2, 0, 1}},
		{"two for one place, and a place is free", three, []api.Fire{between(990, 990), between(990, 990)}, []int{1, none}},
		{"three for two places", three, []api.Fire{between(900, 990), between(990, 990), between(900, 990)}, []int{0, 1, none}},
		{"a later one stands, that the first may be at a lesser place", three, []api.Fire{between(900, 1080), between(1080, 1080), between(1080, 1080)}, []int{0, 2, none}},
		{"the second one alone could stand at the first place", three, []api.Fire{between(990, 1080), between(900, 1080), between(990, 990)}, []int{2, 0, 1}},
	} {
		if got, e := Stand(c.k, c.l, program()); !slices.Equal(got, c.want) || e != api.OK {
			t.Errorf("%s: Stand = %v, error %d, not %v", c.name, got, e, c.want)
		}
	}
}

// wrongSpans returns spans that are not within two bounds.
func wrongSpans(least, most int) []api.Span {
	return []api.Span{span(least-1, most), span(least, most+1), span(least+1, least), span(most+1, most+1), span(math.MinInt, math.MaxInt), span(math.MaxInt, math.MinInt)}
}

// wrongNumbers returns numbers that are not from one to another one.
func wrongNumbers(least, most int) []int {
	return []int{least - 1, most + 1, math.MinInt, math.MaxInt}
}

// wrongKilns returns kilns that are not valid.
func wrongKilns() []api.Kiln {
	l := []api.Kiln{
		{},
		kilnWith(example(), func(k *api.Kiln) { k.Places = nil }),
		kilnWith(example(), func(k *api.Kiln) { k.Places = []api.Place{} }),
		kilnWith(example(), func(k *api.Kiln) { k.Places = slices.Repeat(k.Places, 5)[:9] }),
	}
	for i := range example().Places {
		for _, s := range wrongSpans(api.MinGain, api.MaxGain) {
			l = append(l, kilnWith(example(), func(k *api.Kiln) { k.Places[i].Gain = s }))
		}
		for _, s := range wrongSpans(-api.MaxOff, api.MaxOff) {
			l = append(l, kilnWith(example(), func(k *api.Kiln) { k.Places[i].Off = s }))
		}
	}
	for _, n := range wrongNumbers(0, api.MaxErr) {
		l = append(l, kilnWith(example(), func(k *api.Kiln) { k.Err = n }))
	}
	for _, n := range wrongNumbers(1, api.MaxHeat) {
		l = append(l, kilnWith(example(), func(k *api.Kiln) { k.Ramp = n }))
	}
	for _, n := range wrongNumbers(api.MinStep, api.MaxHeat) {
		l = append(l, kilnWith(example(), func(k *api.Kiln) { k.Step = n }))
	}
	return l
}

// wrongFires returns fires that are not valid.
func wrongFires() []api.Fire {
	l := []api.Fire{{}}
	wrong := func(least, most int, set func(f *api.Fire, n int)) {
		for _, n := range wrongNumbers(least, most) {
			l = append(l, with(func(f *api.Fire) { set(f, n) }))
		}
	}
	wrong(0, fireA().Soak, func(f *api.Fire, n int) { f.Cool = n })
	wrong(fireA().Cool, fireA().Top, func(f *api.Fire, n int) { f.Soak = n })
	wrong(fireA().Soak, api.MaxLead, func(f *api.Fire, n int) { f.Top = n })
	wrong(1, api.MaxHold, func(f *api.Fire, n int) { f.Hold = n })
	wrong(1, api.MaxLead, func(f *api.Fire, n int) { f.Rise = n })
	wrong(1, api.MaxLead, func(f *api.Fire, n int) { f.Fall = n })
	return l
}

// wrongPrograms returns programs that are no programs, but are not too long.
func wrongPrograms() [][]int {
	return [][]int{nil, {}, {-1}, {2001}, {100, 400, -1}, {2001, 400, 100}, {100, math.MinInt}, {100, math.MaxInt, 100}, append(make([]int, 39), 2001)}
}

// expect checks that each function that takes a fire, and a program or places, returns an error, and nothing else.
func expect(t *testing.T, want api.Errno, k api.Kiln, f api.Fire, program []int, place int, places []int) {
	t.Helper()
	expectProgram(t, want, k, f, program, place)
	if got, e := Plan(k, f, places); e != want || len(got) != 0 {
		t.Errorf("Plan(%v, %v, %v) = %v, error %d", k, f, places, got, e)
	}
}

// expectProgram checks the functions that take a fire and a program.
func expectProgram(t *testing.T, want api.Errno, k api.Kiln, f api.Fire, program []int, place int) {
	t.Helper()
	if got, e := Check(k, f, program); e != want || len(got) != 0 {
		t.Errorf("Check(%v, %v, %v) = %v, error %d", k, f, program, got, e)
	}
	if rule, hour, e := Why(k, f, program, place); e != want || rule != 0 || hour != 0 {
		t.Errorf("Why(%v, %v, %v, %d) = %d, %d, error %d", k, f, program, place, rule, hour, e)
	}
	for _, l := range [][]api.Fire{{f}, {fireA(), f}, {f, fireB()}} {
		expectStand(t, want, k, l, program)
	}
}

func expectStand(t *testing.T, want api.Errno, k api.Kiln, l []api.Fire, program []int) {
	t.Helper()
	if got, e := Stand(k, l, program); e != want || len(got) != 0 {
		t.Errorf("Stand(%v, %v, %v) = %v, error %d", k, l, program, got, e)
	}
}

// R1: ErrArg for the kiln and the fires comes before all other errors.
func TestWrongKilnsAndFires(t *testing.T) {
	for _, k := range wrongKilns() {
		for _, n := range []int{-1, 0, 1, 9} {
			if s, e := Heat(k, n, 100*n); e != api.ErrArg || s != (api.Span{}) {
				t.Errorf("Heat(%v, %d, %d) = %v, error %d", k, n, 100*n, s, e)
			}
		}
		expect(t, api.ErrArg, k, fireA(), program(), 0, []int{0})
		expect(t, api.ErrArg, k, fireA(), nil, -1, nil)
		expect(t, api.ErrArg, k, fireA(), make([]int, 41), -1, nil)
		expectStand(t, api.ErrArg, k, nil, program())
		expectStand(t, api.ErrArg, k, slices.Repeat([]api.Fire{fireA()}, 9), nil)
	}
	for _, f := range wrongFires() {
		expect(t, api.ErrArg, example(), f, program(), 0, []int{0})
		expect(t, api.ErrArg, example(), f, nil, 2, []int{1, 0})
		expect(t, api.ErrArg, example(), f, make([]int, 41), -1, nil)
		expectStand(t, api.ErrArg, example(), append(slices.Repeat([]api.Fire{fireA()}, 8), f), nil)
	}
}

// R1: ErrLong for a program or for fires comes before what the numbers are.
func TestTooLong(t *testing.T) {
	for _, n := range []int{41, 42, 500} {
		for _, set := range []int{0, -1, 2001} {
			for _, place := range []int{0, -1, 2} {
				expectProgram(t, api.ErrLong, example(), fireA(), slices.Repeat([]int{set}, n), place)
			}
			expectStand(t, api.ErrLong, example(), nil, slices.Repeat([]int{set}, n))
		}
	}
	for _, n := range []int{9, 10, 300} {
		for _, l := range [][]int{program(), nil, {-1}, make([]int, 41)} {
			expectStand(t, api.ErrLong, example(), slices.Repeat([]api.Fire{fireA()}, n), l)
		}
	}
	if got, e := Check(example(), fireA(), make([]int, 40)); !slices.Equal(got, []int{0, 1}) || e != api.OK {
		t.Errorf("Check with forty hours = %v, error %d", got, e)
	}
	if got, e := Stand(example(), slices.Repeat([]api.Fire{fireA()}, 8), make([]int, 40)); len(got) != 8 || e != api.OK {
		t.Errorf("Stand of eight batches with forty hours = %v, error %d", got, e)
	}
}

// R1: ErrRange, for each other argument, before ErrNone.
func TestRanges(t *testing.T) {
	for _, n := range wrongNumbers(0, 1) {
		if s, e := Heat(example(), n, 800); e != api.ErrRange || s != (api.Span{}) {
			t.Errorf("Heat at the place %d = %v, error %d", n, s, e)
		}
		for _, f := range []api.Fire{fireA(), fireB()} {
			if rule, hour, e := Why(example(), f, program(), n); e != api.ErrRange || rule != 0 || hour != 0 {
				t.Errorf("Why of the place %d = %d, %d, error %d", n, rule, hour, e)
			}
		}
	}
	for _, n := range wrongNumbers(0, api.MaxHeat) {
		if s, e := Heat(example(), 0, n); e != api.ErrRange || s != (api.Span{}) {
			t.Errorf("Heat at %d = %v, error %d", n, s, e)
		}
	}
	for _, l := range wrongPrograms() {
		expectProgram(t, api.ErrRange, example(), fireA(), l, 0)
		expectStand(t, api.ErrRange, example(), nil, l)
	}
	never := with(func(f *api.Fire) { f.Soak, f.Top = 4000, 4000 })
	for _, l := range [][]int{nil, {}, {-1}, {2}, {0, 0}, {1, 0}, {0, 1, 1}, {0, 1, 2}, {0, 1, 0}, {-1, 0}, {math.MinInt, 0}, {0, math.MaxInt}, make([]int, 41), make([]int, 1000)} {
		for _, f := range []api.Fire{fireA(), never} {
			if got, e := Plan(example(), f, l); e != api.ErrRange || len(got) != 0 {
				t.Errorf("Plan for the places %v = %v, error %d", l, got, e)
			}
		}
	}
	if got, e := Plan(example(), never, []int{0, 1}); e != api.ErrNone || len(got) != 0 {
		t.Errorf("Plan of what is never hot enough = %v, error %d", got, e)
	}
}

// R7: each number may be at its limit.
func TestLimits(t *testing.T) {
	most := api.Kiln{Places: slices.Repeat([]api.Place{place(span(api.MaxGain, api.MaxGain), span(api.MaxOff, api.MaxOff))}, api.MaxPlaces), Err: api.MaxErr, Ramp: api.MaxHeat, Step: api.MaxHeat}
	least := api.Kiln{Places: []api.Place{place(span(api.MinGain, api.MinGain), span(-api.MaxOff, -api.MaxOff))}, Err: 0, Ramp: 1, Step: api.MinStep}
	hottest := api.Fire{Cool: api.MaxLead, Soak: api.MaxLead, Top: api.MaxLead, Hold: api.MaxHold, Rise: api.MaxLead, Fall: api.MaxLead}
	coldest := api.Fire{Cool: 0, Soak: 0, Top: 0, Hold: 1, Rise: 1, Fall: 1}
	if s, e := Heat(most, api.MaxPlaces-1, api.MaxHeat); s != span(3050, 3350) || e != api.OK {
		t.Errorf("Heat = %v, error %d", s, e)
	}
	if s, e := Heat(least, 0, 0); s != span(-200, -200) || e != api.OK {
		t.Errorf("Heat = %v, error %d", s, e)
	}
	for _, k := range []api.Kiln{most, least} {
		for _, f := range []api.Fire{hottest, coldest} {
			for _, set := range []int{0, api.MaxHeat} {
				l := slices.Repeat([]int{set}, api.MaxProgram)
				_, e := Check(k, f, l)
				if _, _, g := Why(k, f, l, len(k.Places)-1); e != api.OK || g != api.OK && g != api.ErrNone {
					t.Errorf("%v, %v, %v: errors %d, %d", k, f, l, e, g)
				}
				if got, e := Stand(k, slices.Repeat([]api.Fire{f}, api.MaxFires), l); len(got) != api.MaxFires || e != api.OK {
					t.Errorf("Stand(%v, %v, %v) = %v, error %d", k, f, l, got, e)
				}
			}
		}
	}
	if got, e := Plan(least, coldest, []int{0}); !slices.Equal(got, []int{400}) || e != api.OK {
		t.Errorf("Plan = %v, error %d", got, e)
	}
	if got, e := Plan(most, hottest, []int{0, 1, 2, 3, 4, 5, 6, 7}); len(got) != 0 || e != api.ErrNone {
		t.Errorf("Plan = %v, error %d", got, e)
	}
}

// P1: whatever the numbers are, each function ends, and has a result or an error.
func TestAnyArguments(t *testing.T) {
	ends := []int{math.MinInt, -1, 0, 1, 50, 700, 2000, math.MaxInt}
	for _, a := range ends {
		for _, b := range ends {
			k := kilnWith(example(), func(k *api.Kiln) { k.Places[1], k.Err, k.Ramp, k.Step = place(span(a, b), span(b, a)), a, b, a })
			f := api.Fire{Cool: a, Soak: b, Top: a, Hold: b, Rise: a, Fall: b}
			for _, x := range []api.Kiln{k, exact()} {
				for _, y := range []api.Fire{f, fireA(), {Cool: a, Soak: max(a, b), Top: api.MaxLead, Hold: 1, Rise: b, Fall: a}} {
					Heat(x, a, b)
					Check(x, y, []int{a, b})
					Why(x, y, []int{a, b}, b)
					Plan(x, y, []int{a, b})
					Plan(x, y, []int{0})
					Stand(x, []api.Fire{y, fireA()}, []int{b, a})
				}
			}
		}
	}
}

// R4: no argument is changed, and no result shares memory with an argument or with another result.
func TestMemory(t *testing.T) {
	k, fires, l, places := example(), []api.Fire{fireA(), fireB(), fireA()}, program(), []int{0, 1}
	for range 2 {
		if got, e := Check(k, fireA(), l); !slices.Equal(got, []int{1}) || e != api.OK {
			t.Errorf("Check = %v, error %d", got, e)
		} else {
			got[0] = 77
		}
		if got, e := Plan(k, fireA(), places); !slices.Equal(got, []int{0, 200, 400, 600, 800, 800, 500, 200, 0}) || e != api.OK {
			t.Errorf("Plan = %v, error %d", got, e)
		} else {
			clear(got)
		}
		if got, e := Stand(k, fires, l); !slices.Equal(got, []int{0, 1, api.NoPlace}) || e != api.OK {
			t.Errorf("Stand = %v, error %d", got, e)
		} else {
			clear(got)
		}
	}
	if !slices.Equal(k.Places, example().Places) || !slices.Equal(fires, []api.Fire{fireA(), fireB(), fireA()}) || !slices.Equal(l, program()) || !slices.Equal(places, []int{0, 1}) {
		t.Errorf("arguments were changed: %v, %v, %v, %v", k, fires, l, places)
	}
}
