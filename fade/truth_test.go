package fade

import (
	"math/bits"
	"math/rand"
	"slices"
	"testing"

	"pencilworks/api"
)

// tries is how often a property is tried.
const tries = 2000

// truth is the light after each number of months, and what each reference and each sample takes.
type truth struct{ light, refs, samples []int }

func (u truth) takes(what, index int) int {
	if what == api.WhatRef {
		return u.refs[index]
	}
	return u.samples[index]
}

func (u truth) fitsCheck(c api.Check) bool {
	return (u.light[c.Month] >= u.takes(c.What, c.Index)) == c.Faded
}

func isIn(s api.Span, n int) bool { return s.Lo <= n && n <= s.Hi }

// fits tells whether all that is in a truth may be, and it fits all checks.
func (u truth) fits(f api.Fading) bool {
	for i, s := range f.Months {
		if !isIn(s, u.light[i+1]-u.light[i]) {
			return false
		}
	}
	for i, s := range f.Refs {
		if !isIn(s, u.refs[i]) || i > 0 && u.refs[i] <= u.refs[i-1] {
			return false
		}
	}
	for _, n := range u.samples {
		if !isIn(span(1, api.MaxFast), n) {
			return false
		}
	}
	return u.light[0] == 0 && !slices.ContainsFunc(f.Checks, func(c api.Check) bool { return !u.fitsCheck(c) })
}

func (u truth) grade(sample int) (n int) {
	for _, r := range u.refs {
		if r <= u.samples[sample] {
			n++
		}
	}
	return n
}

// missing returns how much light a reference still takes after all months.
func (u truth) missing(ref int) int { return u.refs[ref] - u.light[len(u.light)-1] }

// sizes are how great cards are that are made: how many months, references, samples and checks there are at most, how much light a month brings and a reference takes at most, and how wide spans are at most.
type sizes struct{ months, refs, samples, checks, light, take, wide int }

func small() sizes {
	return sizes{months: 3, refs: 3, samples: 2, checks: 5, light: 4, take: 9, wide: 3}
}

func great() sizes {
	return sizes{months: api.MaxMonths, refs: api.MaxRefs, samples: api.MaxSamples, checks: api.MaxChecks, light: api.MaxLight, take: api.MaxFast, wide: api.MaxFast}
}

// around returns a span with a number in it, both ends from least to most.
func around(r *rand.Rand, n, least, most, wide int) api.Span {
	return span(max(least, n-r.Intn(wide)), min(most, n+r.Intn(wide)))
}

// anyTruth returns cards without checks, and one of their truths. Light and what it fades are as great as one another, so that there is something to see; spans are as often narrow as wide.
func anyTruth(r *rand.Rand, z sizes) (f api.Fading, u truth) {
	wide := 1 + r.Intn(z.wide>>r.Intn(bits.Len(uint(z.wide))))
	light := 1 + r.Intn(z.light)
	u.light = []int{0}
	for range r.Intn(z.months + 1) {
		n := r.Intn(light + 1)
		u.light = append(u.light, u.light[len(u.light)-1]+n)
		f.Months = append(f.Months, around(r, n, 0, z.light, wide))
	}
	top := min(z.take, max(z.refs, u.light[len(u.light)-1]*5/4))
	for many := r.Intn(z.refs + 1); len(u.refs) < many; {
		if n := 1 + r.Intn(top); !slices.Contains(u.refs, n) {
			u.refs = append(u.refs, n)
		}
	}
	slices.Sort(u.refs)
	for _, n := range u.refs {
		f.Refs = append(f.Refs, around(r, n, 1, z.take, wide))
	}
	f.Samples = r.Intn(z.samples + 1)
	for range f.Samples {
		u.samples = append(u.samples, 1+r.Intn(top))
	}
	return f, u
}

// anyCheck returns a check that a truth fits, of cards with references or samples.
func anyCheck(r *rand.Rand, f api.Fading, u truth) api.Check {
	n := r.Intn(len(f.Refs) + f.Samples)
	c := ref(r.Intn(len(f.Months)+1), n, true)
	if n >= len(f.Refs) {
		c = sample(c.Month, n-len(f.Refs), true)
	}
	c.Faded = u.fitsCheck(c)
	return c
}

// anyCards returns cards with a truth that fits their checks.
func anyCards(r *rand.Rand, z sizes) (f api.Fading, u truth) {
	f, u = anyTruth(r, z)
	if len(f.Refs)+f.Samples == 0 {
		return f, u
	}
	for range r.Intn(z.checks + 1) {
		f.Checks = append(f.Checks, anyCheck(r, f, u))
	}
	return f, u
}

// spoil makes one of the checks the other way round, and perhaps two references harder to tell apart, so that perhaps no truth fits.
func spoil(r *rand.Rand, f api.Fading) api.Fading {
	f.Refs, f.Checks = slices.Clone(f.Refs), slices.Clone(f.Checks)
	if n := len(f.Checks); n > 0 {
		i := r.Intn(n)
		f.Checks[i].Faded = !f.Checks[i].Faded
	}
	if n := len(f.Refs); n > 1 && r.Intn(4) == 0 {
		f.Refs[r.Intn(n)] = f.Refs[r.Intn(n)]
	}
	return f
}

// seen is what is seen of some truths: the spans of all their numbers, and of what is missing after all months, and which grades each sample has.
type seen struct {
	any                           bool
	light, refs, samples, missing []api.Span
	grades                        [][]bool
	fitting                       int
}

// wider returns a span with a number more; the first one is the only one in it.
func wider(s api.Span, n int, isFirst bool) api.Span {
	if isFirst {
		return span(n, n)
	}
	return span(min(s.Lo, n), max(s.Hi, n))
}

// fittingFirst returns how many checks a truth fits before one that it does not, among those of references, or of a sample.
func (u truth) fittingFirst(l []api.Check, what, index int) int {
	for i, c := range l {
		if c.What == what && (what == api.WhatRef || c.Index == index) && !u.fitsCheck(c) {
			return i
		}
	}
	return len(l)
}

// add adds light and references, with all that each sample can take beside them: samples make no difference to one another. The values are all those of which one can be told from another one.
func (x *seen) add(f api.Fading, u truth, values []int) {
	fitting := u.fittingFirst(f.Checks, api.WhatRef, 0)
	var fit [][]int
	for i := range f.Samples {
		best := -1
		fit = append(fit, nil)
		for _, n := range values {
			u.samples[i] = n
			many := u.fittingFirst(f.Checks, api.WhatSample, i)
			best = max(best, many)
			if many == len(f.Checks) {
				fit[i] = append(fit[i], n)
			}
		}
		fitting = min(fitting, best)
	}
	x.fitting = max(x.fitting, fitting)
	if fitting < len(f.Checks) {
		return
	}
	for i, n := range u.light {
		x.light[i] = wider(x.light[i], n, !x.any)
	}
	for i, n := range u.refs {
		x.refs[i] = wider(x.refs[i], n, !x.any)
		x.missing[i] = wider(x.missing[i], u.missing(i), !x.any)
	}
	for i, l := range fit {
		for j, n := range l {
			x.samples[i] = wider(x.samples[i], n, !x.any && j == 0)
			u.samples[i] = n
			x.grades[i][u.grade(i)] = true
		}
	}
	x.any = true
}

// tryAll tries all truths of small cards one by one.
func tryAll(f api.Fading) (x seen) {
	x = seen{light: make([]api.Span, len(f.Months)+1), refs: make([]api.Span, len(f.Refs)), missing: make([]api.Span, len(f.Refs)), samples: make([]api.Span, f.Samples), fitting: -1}
	for range f.Samples {
		x.grades = append(x.grades, make([]bool, len(f.Refs)+1))
	}
	z := small()
	values := []int{api.MaxFast}
	for n := range max(z.months*z.light, z.take) + 1 {
		values = append(values, n+1)
	}
	u := truth{light: make([]int, len(f.Months)+1), refs: make([]int, len(f.Refs)), samples: make([]int, f.Samples)}
	var month, reference func(i int)
	month = func(i int) {
		if i == len(f.Months) {
			reference(0)
			return
		}
		for n := f.Months[i].Lo; n <= f.Months[i].Hi; n++ {
			u.light[i+1] = u.light[i] + n
			month(i + 1)
		}
	}
	reference = func(i int) {
		if i == len(f.Refs) {
			x.add(f, u, values)
			return
		}
		for n := f.Refs[i].Lo; n <= f.Refs[i].Hi; n++ {
			if u.refs[i] = n; i == 0 || n > u.refs[i-1] {
				reference(i + 1)
			}
		}
	}
	month(0)
	return x
}

// expectSeen expects that all functions return what is seen of all truths.
func expectSeen(t *testing.T, f api.Fading, x seen) {
	t.Helper()
	want := api.OK
	if !x.any {
		want = api.ErrState
	}
	for i, w := range x.light {
		if s, e := Light(f, i); s != w || e != want {
			t.Errorf("Light(%v, %d) = %v, error %d, not %v, error %d", f, i, s, e, w, want)
		}
	}
	for i, w := range x.refs {
		if s, e := Fast(f, api.WhatRef, i); s != w || e != want {
			t.Errorf("Fast(%v, reference, %d) = %v, error %d, not %v, error %d", f, i, s, e, w, want)
		}
		expectUntil(t, f, i, x.missing[i].Hi, want)
	}
	for i, w := range x.samples {
		if s, e := Fast(f, api.WhatSample, i); s != w || e != want {
			t.Errorf("Fast(%v, sample, %d) = %v, error %d, not %v, error %d", f, i, s, e, w, want)
		}
		var grades api.Span
		for g := range x.grades[i] {
			if x.grades[i][g] {
				grades = wider(grades, g, !slices.Contains(x.grades[i][:g], true))
			}
		}
		if s, e := Grade(f, i); s != grades || e != want {
			t.Errorf("Grade(%v, %d) = %v, error %d, not %v, error %d", f, i, s, e, grades, want)
		}
		if want == api.OK && slices.Contains(x.grades[i][grades.Lo:grades.Hi+1], false) {
			t.Errorf("%v: the sample %d has some grades, but none between: %v", f, i, x.grades[i])
		}
	}
}

// expectUntil expects that a reference that may take so much more light surely fades after the least number of months that is enough, with any light in them.
func expectUntil(t *testing.T, f api.Fading, ref, missing int, want api.Errno) {
	t.Helper()
	for _, least := range []int{0, 1, 2, 3, 7, 1000, api.MaxLight} {
		months, e := 0, want
		switch {
		case want != api.OK || missing <= 0:
		case least == 0:
			e = api.ErrNone
		default:
			months = (missing + least - 1) / least
		}
		for _, most := range []int{least, api.MaxLight} {
			if n, err := Until(f, ref, span(least, most)); n != months || err != e {
				t.Errorf("Until(%v, %d, %d..%d) = %d, error %d, not %d, error %d", f, ref, least, most, n, err, months, e)
			}
		}
	}
}

// P12.1 to P12.7: all truths of small cards are tried one by one; with checks that some truth fits, and with some that perhaps none does.
func TestAllTruths(t *testing.T) {
	r := rand.New(rand.NewSource(1))
	kinds := map[api.Errno]int{}
	for range tries {
		f, _ := anyCards(r, small())
		if r.Intn(3) == 0 {
			f = spoil(r, f)
		}
		x := tryAll(f)
		expectSeen(t, f, x)
		clash, want := x.fitting, api.OK
		switch {
		case x.fitting < 0:
			clash, want = 0, api.ErrState
		case x.any:
			clash, want = 0, api.ErrNone
		}
		if n, e := Clash(f); n != clash || e != want {
			t.Errorf("Clash(%v) = %d, error %d, not %d, error %d", f, n, e, clash, want)
		}
		kinds[want]++
	}
	if min(kinds[api.OK], kinds[api.ErrNone], kinds[api.ErrState]) < tries/100 {
		t.Errorf("only some kinds of cards are tested: %v", kinds)
	}
}

// rule is that one number of a truth is at least another one and so much more: numbers are told by their places, as place says.
type rule struct{ great, less, more int }

// place returns the place of a number: the lights come first, then the references, then the samples.
func place(f api.Fading, what, index int) int {
	if what == api.WhatSample {
		index += len(f.Refs)
	}
	return len(f.Months) + 1 + index
}

// rules returns what holds in all truths that fit.
func rules(f api.Fading) (l []rule) {
	within := func(n, from int, s api.Span) {
		l = append(l, rule{n, from, s.Lo}, rule{from, n, -s.Hi})
	}
	for i, s := range f.Months {
		within(i+1, i, s)
	}
	for i, s := range f.Refs {
		n := place(f, api.WhatRef, i)
		within(n, 0, s)
		if i > 0 {
			l = append(l, rule{n, n - 1, 1})
		}
	}
	for i := range f.Samples {
		within(place(f, api.WhatSample, i), 0, span(1, api.MaxFast))
	}
	for _, c := range f.Checks {
		n := place(f, c.What, c.Index)
		if c.Faded {
			l = append(l, rule{c.Month, n, 0})
		} else {
			l = append(l, rule{n, c.Month, 1})
		}
	}
	return l
}

// leastTruth returns the truth in which all numbers are least, of those that fit and keep further rules: from 0 on, numbers are raised as they must be. If this does not end in as many rounds as there are numbers, it never does.
func leastTruth(f api.Fading, more ...rule) (u truth, ok bool) {
	n := make([]int, len(f.Months)+1+len(f.Refs)+f.Samples)
	l := append(rules(f), more...)
	for range len(n) + 1 {
		changes := false
		for _, x := range l {
			if least := n[x.less] + x.more; n[x.great] < least {
				n[x.great], changes = least, true
			}
		}
		if !changes && n[0] == 0 {
			refs := len(f.Months) + 1
			samples := refs + len(f.Refs)
			return truth{n[:refs], n[refs:samples], n[samples:]}, true
		}
	}
	return truth{}, false
}

// witness returns a truth that keeps further rules, and tells whether there is one; it is looked at whether it fits.
func witness(t *testing.T, f api.Fading, more ...rule) (truth, bool) {
	t.Helper()
	u, ok := leastTruth(f, more...)
	if ok && !u.fits(f) {
		t.Fatalf("%v: the truth %v does not fit", f, u)
	}
	return u, ok
}

// expectEnds expects that both ends of a span are numbers of truths that fit, and that no number beyond them is.
func expectEnds(t *testing.T, f api.Fading, what string, place int, s api.Span, number func(truth) int) {
	t.Helper()
	low, ok := witness(t, f)
	if !ok || number(low) != s.Lo {
		t.Errorf("%v: %s has the span %v, and %v is the least truth", f, what, s, low)
	}
	high, ok := witness(t, f, rule{place, 0, s.Hi})
	if !ok || number(high) != s.Hi {
		t.Errorf("%v: no truth has the end of the span %v of %s", f, s, what)
	}
	if beyond, ok := witness(t, f, rule{place, 0, s.Hi + 1}); ok {
		t.Errorf("%v: %s has the span %v, but there is the truth %v", f, what, s, beyond)
	}
}

// P12.1, P12.2, P12.6: all spans of great cards contain what is true, and both of their ends are those of a truth that fits.
func TestEndsOfSpans(t *testing.T) {
	r := rand.New(rand.NewSource(2))
	for range tries {
		f, u := anyCards(r, great())
		for i, n := range u.light {
			s, e := Light(f, i)
			if e != api.OK || !isIn(s, n) {
				t.Errorf("Light(%v, %d) = %v, error %d, but it is %d", f, i, s, e, n)
			}
			expectEnds(t, f, "light", i, s, func(u truth) int { return u.light[i] })
		}
		for what, l := range [][]int{api.WhatRef: u.refs, api.WhatSample: u.samples} {
			for i, n := range l {
				s, e := Fast(f, what, i)
				if e != api.OK || !isIn(s, n) {
					t.Errorf("Fast(%v, %d, %d) = %v, error %d, but it is %d", f, what, i, s, e, n)
				}
				expectEnds(t, f, "what is taken", place(f, what, i), s, func(u truth) int { return u.takes(what, i) })
			}
		}
	}
}

// graded returns the rules by which a sample has a grade.
func graded(f api.Fading, sample, grade int) (l []rule) {
	n := place(f, api.WhatSample, sample)
	if grade > 0 {
		l = append(l, rule{n, place(f, api.WhatRef, grade-1), 0})
	}
	if grade < len(f.Refs) {
		l = append(l, rule{place(f, api.WhatRef, grade), n, 1})
	}
	return l
}

// P12.3, P12.6, P12.7: of great cards, the true grade of a sample is in its span, as is each grade that some truth gives it, and no other one.
func TestAllGrades(t *testing.T) {
	r := rand.New(rand.NewSource(3))
	wide, narrow := 0, 0
	for range tries {
		f, u := anyCards(r, great())
		for i := range u.samples {
			s, e := Grade(f, i)
			if e != api.OK || !isIn(s, u.grade(i)) {
				t.Errorf("Grade(%v, %d) = %v, error %d, but it is %d", f, i, s, e, u.grade(i))
			}
			for g := range len(f.Refs) + 1 {
				v, ok := witness(t, f, graded(f, i, g)...)
				if ok != isIn(s, g) || ok && v.grade(i) != g {
					t.Errorf("Grade(%v, %d) = %v, but of the grade %d there is %t, the truth %v", f, i, s, g, ok, v)
				}
			}
			if s.Hi > s.Lo+1 {
				wide++
			} else if len(f.Refs) > 2 {
				narrow++
			}
		}
	}
	if min(wide, narrow) < tries/4 {
		t.Errorf("only some kinds of grades are tested: %d, %d", wide, narrow)
	}
}

// P12.7: a sample that was seen faded when a reference was not has a grade no greater than the index of the reference; one that was not, when a reference was, has a greater one.
func TestBetweenNeighbours(t *testing.T) {
	r := rand.New(rand.NewSource(4))
	pairs := map[bool]int{}
	for range tries {
		f, _ := anyCards(r, great())
		for _, c := range f.Checks {
			for _, d := range f.Checks {
				if c.What != api.WhatSample || d.What != api.WhatRef || c.Month != d.Month || c.Faded == d.Faded {
					continue
				}
				s, e := Grade(f, c.Index)
				if e != api.OK || c.Faded && s.Hi > d.Index || d.Faded && s.Lo <= d.Index {
					t.Errorf("Grade(%v, %d) = %v, error %d, but there are %v and %v", f, c.Index, s, e, c, d)
				}
				pairs[c.Faded]++
			}
		}
	}
	if min(pairs[true], pairs[false]) < tries {
		t.Errorf("only some kinds of looks are tested: %v", pairs)
	}
}

// P12.4: of great cards, the checks before the one that clashes fit a truth, and with it none does; then all else is ErrState.
func TestAnyClash(t *testing.T) {
	r := rand.New(rand.NewSource(5))
	kinds := map[api.Errno]int{}
	for range tries {
		f, _ := anyCards(r, great())
		f = spoil(r, f)
		n, e := Clash(f)
		kinds[e]++
		_, fits := witness(t, f)
		if fits != (e == api.ErrNone) {
			t.Errorf("Clash(%v) = %d, error %d, but that a truth fits is %t", f, n, e, fits)
		}
		if _, state := Light(f, 0); (state == api.ErrState) == fits || !fits && state != api.ErrState {
			t.Errorf("Light(%v, 0) = error %d, but that a truth fits is %t", f, state, fits)
		}
		g := f
		switch e {
		case api.OK:
			g.Checks = f.Checks[:n]
			_, before := witness(t, g)
			g.Checks = f.Checks[:n+1]
			if _, with := witness(t, g); !before || with {
				t.Errorf("Clash(%v) = %d, but before it a truth fits: %t, and with it: %t", f, n, before, with)
			}
		case api.ErrState:
			g.Checks = nil
			if u, ok := witness(t, g); ok {
				t.Errorf("Clash(%v) = error %d, but without checks there is %v", f, e, u)
			}
		}
	}
	if min(kinds[api.OK], kinds[api.ErrNone], kinds[api.ErrState]) < tries/50 {
		t.Errorf("only some kinds of cards are tested: %v", kinds)
	}
}

// P12.5: of great cards, a reference surely has faded after so many further months, and perhaps not after one less.
func TestAnyUntil(t *testing.T) {
	r := rand.New(rand.NewSource(6))
	kinds := map[api.Errno]int{}
	for range tries {
		f, u := anyCards(r, great())
		for i := range f.Refs {
			more := around(r, r.Intn(api.MaxLight), 0, api.MaxLight, []int{1, 1000, api.MaxLight}[r.Intn(3)])
			n, e := Until(f, i, more)
			kinds[e]++
			last, at := len(f.Months), place(f, api.WhatRef, i)
			if e == api.ErrNone {
				if _, ok := witness(t, f, rule{at, last, 1}); !ok || more.Lo > 0 {
					t.Errorf("Until(%v, %d, %v) = error %d", f, i, more, e)
				}
				continue
			}
			if e != api.OK || u.missing(i) > n*more.Lo {
				t.Errorf("Until(%v, %d, %v) = %d, error %d, but %d is missing", f, i, more, n, e, u.missing(i))
			}
			if v, ok := witness(t, f, rule{at, last, n*more.Lo + 1}); ok {
				t.Errorf("Until(%v, %d, %v) = %d, but there is the truth %v", f, i, more, n, v)
			}
			if _, ok := witness(t, f, rule{at, last, (n-1)*more.Lo + 1}); n > 0 && !ok {
				t.Errorf("Until(%v, %d, %v) = %d, but fewer months are enough", f, i, more, n)
			}
		}
	}
	if min(kinds[api.OK], kinds[api.ErrNone]) < tries/10 {
		t.Errorf("only some kinds of references are tested: %v", kinds)
	}
}

// known is all spans of cards: of light, of references, of samples, and of grades.
type known struct{ light, refs, samples, grades []api.Span }

func allSpans(t *testing.T, f api.Fading) (k known) {
	t.Helper()
	must := func(s api.Span, e api.Errno) api.Span {
		if e != api.OK {
			t.Fatalf("%v: error %d", f, e)
		}
		return s
	}
	for i := range len(f.Months) + 1 {
		k.light = append(k.light, must(Light(f, i)))
	}
	for i := range f.Refs {
		k.refs = append(k.refs, must(Fast(f, api.WhatRef, i)))
	}
	for i := range f.Samples {
		k.samples = append(k.samples, must(Fast(f, api.WhatSample, i)))
		k.grades = append(k.grades, must(Grade(f, i)))
	}
	return k
}

// list returns all spans in one list.
func (k known) list() []api.Span { return slices.Concat(k.light, k.refs, k.samples, k.grades) }

// narrowed returns a span with both ends no farther from a number in it.
func narrowed(r *rand.Rand, s api.Span, n int) api.Span {
	return span(s.Lo+r.Intn(n-s.Lo+1), s.Hi-r.Intn(s.Hi-n+1))
}

// moreKnown returns cards of which more is known, in one of several ways; a truth still fits them.
func moreKnown(r *rand.Rand, f api.Fading, u truth) api.Fading {
	switch n := r.Intn(3); {
	case n == 0 && len(f.Months) > 0:
		i := r.Intn(len(f.Months))
		f.Months = slices.Clone(f.Months)
		f.Months[i] = narrowed(r, f.Months[i], u.light[i+1]-u.light[i])
	case n == 1 && len(f.Refs) > 0:
		i := r.Intn(len(f.Refs))
		f.Refs = slices.Clone(f.Refs)
		f.Refs[i] = narrowed(r, f.Refs[i], u.refs[i])
	case len(f.Refs)+f.Samples > 0 && len(f.Checks) < api.MaxChecks:
		f.Checks = slices.Insert(slices.Clone(f.Checks), r.Intn(len(f.Checks)+1), anyCheck(r, f, u))
	}
	return f
}

// P12.8: with a check more, or narrower months or references, no span is wider.
func TestMoreIsKnown(t *testing.T) {
	r := rand.New(rand.NewSource(7))
	narrower := 0
	for range tries / 4 {
		f, u := anyCards(r, great())
		was := allSpans(t, f).list()
		for range 5 {
			f = moreKnown(r, f, u)
			is := allSpans(t, f).list()
			for i, s := range is {
				if s.Lo < was[i].Lo || s.Hi > was[i].Hi {
					t.Errorf("%v: the span %d was %v, and is %v", f, i, was[i], s)
				}
			}
			if !slices.Equal(is, was) {
				narrower++
			}
			was = is
		}
	}
	if narrower < tries/4 {
		t.Errorf("only %d cards are tested of which more is known", narrower)
	}
}

// P12.8: neither the order of checks nor one that is there twice makes a difference.
func TestOrderOfChecks(t *testing.T) {
	r := rand.New(rand.NewSource(8))
	for range tries / 4 {
		f, _ := anyCards(r, great())
		g := f
		g.Checks = slices.Clone(f.Checks)
		for range r.Intn(3) {
			if n := len(g.Checks); n > 0 && n < api.MaxChecks {
				g.Checks = append(g.Checks, g.Checks[r.Intn(n)])
			}
		}
		r.Shuffle(len(g.Checks), func(i, j int) { g.Checks[i], g.Checks[j] = g.Checks[j], g.Checks[i] })
		if !slices.Equal(allSpans(t, f).list(), allSpans(t, g).list()) {
			t.Errorf("%v and %v do not say the same", f, g)
		}
		bad := spoil(r, f)
		turned := bad
		turned.Checks = slices.Clone(bad.Checks)
		slices.Reverse(turned.Checks)
		_, e := Light(bad, 0)
		if _, other := Light(turned, 0); other != e {
			t.Errorf("Light(%v, 0) = error %d, but with its checks turned round %d", bad, e, other)
		}
	}
}

// P12.8: if samples have other numbers, so has all that is known of them, and nothing else changes.
func TestOrderOfSamples(t *testing.T) {
	r := rand.New(rand.NewSource(9))
	moved := 0
	for range tries / 4 {
		f, _ := anyCards(r, great())
		to := r.Perm(f.Samples)
		g := f
		g.Checks = slices.Clone(f.Checks)
		for i, c := range g.Checks {
			if c.What == api.WhatSample {
				g.Checks[i].Index = to[c.Index]
			}
		}
		was, is := allSpans(t, f), allSpans(t, g)
		for i, n := range to {
			if is.samples[n] != was.samples[i] || is.grades[n] != was.grades[i] {
				t.Errorf("%v: of the sample %d is known %v, %v, but as %d %v, %v", f, i, was.samples[i], was.grades[i], n, is.samples[n], is.grades[n])
			}
			if i != n {
				moved++
			}
		}
		if !slices.Equal(was.light, is.light) || !slices.Equal(was.refs, is.refs) {
			t.Errorf("%v and %v do not say the same of light and references", f, g)
		}
	}
	if moved < tries/4 {
		t.Errorf("only %d samples are tested that have other numbers", moved)
	}
}
