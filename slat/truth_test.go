package slat

import (
	"math/rand"
	"slices"
	"testing"

	"pencilworks/api"
)

// tries is how often a property is tried.
const tries = 1000

// parts is of how many parts a micrometre of a truth consists.
const parts = 12

// made is what may be true of a slat, in parts.
type made struct{ thick, depth, shift, pitch int }

// truth is what may be true of a sandwich, in parts.
type truth struct {
	lower, upper             made
	glue, rod, side, heights int
}

func (m made) place(groove int) int { return m.shift + groove*m.pitch }

// off returns how far off a lead lies, doubled.
func (u truth) off(groove int) (side, height int) {
	side = u.lower.place(groove) + u.upper.place(groove) - 2*u.side
	// The middle of the lead is over the bottom of the lower groove, that of the pencil between both faces.
	middle := 2*(u.lower.thick-u.lower.depth) + u.rod
	faces := u.lower.thick + u.glue + u.upper.thick
	return side, middle - faces - 2*u.heights
}

// isCentred tells whether a lead is within a limit.
func (u truth) isCentred(groove, limit int) bool {
	side, height := u.off(groove)
	return side*side+height*height <= 4*limit*limit*parts*parts
}

// closes tells whether the sandwich closes.
func (u truth) closes(j api.Jig) bool {
	for groove := range j.Grooves {
		if miss := u.lower.place(groove) - u.upper.place(groove); miss > j.Play*parts || -miss > j.Play*parts {
			return false
		}
	}
	return u.lower.depth+u.upper.depth+u.glue >= u.rod
}

// chosen returns a truth whose numbers are chosen from their spans, in a fixed order.
func chosen(j api.Jig, lower, upper api.Slat, choose func(api.Span) int) truth {
	slat := func(s api.Slat) made { return made{choose(s.Thick), choose(s.Depth), choose(s.Shift), choose(s.Pitch)} }
	u := truth{lower: slat(lower), upper: slat(upper)}
	u.glue, u.rod, u.side, u.heights = choose(j.Glue), choose(j.Lead), choose(j.Side), choose(j.Height)
	return u
}

// corners calls a function with each truth in which each number is at an end of its span.
func corners(j api.Jig, lower, upper api.Slat, see func(u truth)) {
	for bits := range 1 << 12 {
		see(chosen(j, lower, upper, func(s api.Span) int {
			high := bits & 1
			bits >>= 1
			return parts * (s.Lo + high*(s.Hi-s.Lo))
		}))
	}
}

// anyTruth returns a truth of a sandwich.
func anyTruth(r *rand.Rand, j api.Jig, lower, upper api.Slat) truth {
	return chosen(j, lower, upper, func(s api.Span) int {
		switch r.Intn(4) {
		case 0:
			return s.Lo * parts
		case 1:
			return s.Hi * parts
		}
		return s.Lo*parts + r.Intn((s.Hi-s.Lo)*parts+1)
	})
}

// around returns a span of some width between two bounds.
func around(r *rand.Rand, wide, least, most int) api.Span {
	lo := least + r.Intn(most-least+1)
	return span(lo, min(most, lo+r.Intn(wide+1)))
}

// anySlat returns a slat whose spans have at most some width.
func anySlat(r *rand.Rand, wide int) api.Slat {
	return api.Slat{Thick: around(r, wide, 4980, 5020), Depth: around(r, wide, 1000, 1010), Shift: around(r, wide, -6, 6), Pitch: around(r, min(wide, 2), -2, 2)}
}

// anyJig returns a jig whose spans have at most some width.
func anyJig(r *rand.Rand, wide int) api.Jig {
	return api.Jig{Glue: around(r, wide, 8, 14), Lead: around(r, wide, 1995, 2015), Side: around(r, wide, -4, 4), Height: around(r, wide, -4, 4), Play: r.Intn(40), Grooves: 1 + r.Intn(4)}
}

// wildJig and wildSlat return any that are valid.

func wildJig(r *rand.Rand) api.Jig {
	return api.Jig{Glue: around(r, 500, 0, 500), Lead: around(r, 5000, 1, 5000), Side: around(r, 1000, -500, 500), Height: around(r, 1000, -500, 500), Play: r.Intn(501), Grooves: 1 + r.Intn(10)}
}

func wildSlat(r *rand.Rand) api.Slat {
	s := api.Slat{Thick: around(r, 10000, 1, 10000), Shift: around(r, 1000, -500, 500), Pitch: around(r, 100, -50, 50)}
	s.Depth = around(r, 10000, 0, s.Thick.Lo)
	return s
}

// anyOf returns a jig and two slats, with numbers of any size, or with such as can be in a works.
func anyOf(r *rand.Rand) (api.Jig, api.Slat, api.Slat) {
	if r.Intn(2) == 0 {
		return wildJig(r), wildSlat(r), wildSlat(r)
	}
	wide := r.Intn(6)
	return anyJig(r, wide), anySlat(r, wide), anySlat(r, wide)
}

// P5.1, P5.6: both spans have the least and the greatest number of all truths, and all numbers of a truth.
func TestOffIsWhatIsReached(t *testing.T) {
	r := rand.New(rand.NewSource(1))
	for range tries / 4 {
		j, lower, upper := anyOf(r)
		groove := r.Intn(j.Grooves)
		s, h, e := Off(j, lower, upper, groove)
		least, most := [2]int{1 << 40, 1 << 40}, [2]int{-1 << 40, -1 << 40}
		see := func(u truth) {
			side, height := u.off(groove)
			least = [2]int{min(least[0], side), min(least[1], height)}
			most = [2]int{max(most[0], side), max(most[1], height)}
		}
		for range 20 {
			see(anyTruth(r, j, lower, upper))
		}
		corners(j, lower, upper, see)
		if least != [2]int{s.Lo * parts, h.Lo * parts} || most != [2]int{s.Hi * parts, h.Hi * parts} || e != api.OK {
			t.Errorf("Off(%v, %v, %v, %d) = %v, %v, error %d, not %v to %v in parts", j, lower, upper, groove, s, h, e, least, most)
		}
	}
}

// snug returns a jig and two slats whose grooves and leads just fit, or just do not, with few truths of integers.
func snug(r *rand.Rand) (api.Jig, api.Slat, api.Slat) {
	j := api.Jig{Glue: around(r, 1, 0, 3), Lead: around(r, 1, 5, 7), Play: r.Intn(5), Grooves: 1 + r.Intn(4)}
	slat := func() api.Slat {
		return api.Slat{Thick: span(9, 9), Depth: around(r, 1, 2, 4), Shift: around(r, 4, -4, 4), Pitch: around(r, 1, -2, 2)}
	}
	return j, slat(), slat()
}

// integers calls a function with each truth of integers, of all that has to do with whether a sandwich closes.
func integers(j api.Jig, lower, upper api.Slat, see func(u truth)) {
	of := func(s api.Span) []int {
		var l []int
		for n := s.Lo; n <= s.Hi; n++ {
			l = append(l, n*parts)
		}
		return l
	}
	slats := func(s api.Slat) []made {
		var l []made
		for _, d := range of(s.Depth) {
			for _, n := range of(s.Shift) {
				for _, p := range of(s.Pitch) {
					l = append(l, made{0, d, n, p})
				}
			}
		}
		return l
	}
	for _, l := range slats(lower) {
		for _, u := range slats(upper) {
			for _, g := range of(j.Glue) {
				for _, n := range of(j.Lead) {
					see(truth{lower: l, upper: u, glue: g, rod: n})
				}
			}
		}
	}
}

// P5.2, P5.6: a sandwich closes always if it does in each truth of integers, and never if it does in none. If any truth closes, one of integers does: nearer to 0, the pitches' difference only makes closing easier.
func TestClosesIsWhatCanBe(t *testing.T) {
	r := rand.New(rand.NewSource(2))
	var seen [3]int
	apart := 0 // in which each groove can meet, but not all of them together
	for range tries * 2 {
		j, lower, upper := snug(r)
		some, all := false, true
		meets := make([]bool, j.Grooves)
		fits := false
		integers(j, lower, upper, func(u truth) {
			closes := u.closes(j)
			some, all = some || closes, all && closes
			fits = fits || u.lower.depth+u.upper.depth+u.glue >= u.rod
			for i := range meets {
				miss := u.lower.place(i) - u.upper.place(i)
				meets[i] = meets[i] || -j.Play*parts <= miss && miss <= j.Play*parts
			}
		})
		want := api.ClosesPerhaps
		switch {
		case all:
			want = api.ClosesAlways
		case !some:
			want = api.ClosesNever
			if fits && !slices.Contains(meets, false) {
				apart++
			}
		}
		seen[want]++
		if got, e := Closes(j, lower, upper); got != want || e != api.OK {
			t.Errorf("Closes(%v, %v, %v) = %d, error %d, not %d", j, lower, upper, got, e, want)
		}
	}
	if slices.Min(seen[:]) < tries/50 || apart < tries/100 {
		t.Errorf("only some kinds of results are tested: %v, and %d of never with grooves that could meet", seen, apart)
	}
}

// P5.6, P3: whatever is true, what always closes does, and what never does, does not; and a lead that has a grade is within its limit.
func TestAnyTruth(t *testing.T) {
	r := rand.New(rand.NewSource(3))
	var seen [3]int
	graded := 0
	for range tries * 4 {
		j, lower, upper := anyOf(r)
		u := anyTruth(r, j, lower, upper)
		n, e := Closes(j, lower, upper)
		if closes := u.closes(j); e != api.OK || closes && n == api.ClosesNever || !closes && n == api.ClosesAlways {
			t.Errorf("Closes(%v, %v, %v) = %d, error %d, but %t in %v", j, lower, upper, n, e, closes, u)
			continue
		}
		seen[n]++
		limits := rising(r, 60)
		grades, e := Grades(j, lower, upper, limits)
		if e != api.OK {
			continue
		}
		for groove, g := range grades {
			if g == api.NoGrade {
				continue
			}
			graded++
			if !u.isCentred(groove, limits[g]) {
				t.Errorf("Grades(%v, %v, %v, %v) = %v, but not at %d in %v", j, lower, upper, limits, grades, groove, u)
			}
		}
	}
	if slices.Min(seen[:]) < tries/10 || graded < tries/10 {
		t.Errorf("only some kinds of results are tested: %v, %d graded", seen, graded)
	}
}

// rising returns some limits up to a greatest one.
func rising(r *rand.Rand, most int) []int {
	var l []int
	for range 1 + r.Intn(api.MaxGrades) {
		l = append(l, r.Intn(most+1))
	}
	slices.Sort(l)
	return slices.Compact(l)
}

// closing returns a jig and some slats of which any two always close.
func closing(r *rand.Rand, many int) (api.Jig, []api.Slat) {
	wide := r.Intn(4)
	j := anyJig(r, wide)
	j.Play = 100
	j.Lead = around(r, 5, 1990, 2000)
	var l []api.Slat
	for range many {
		l = append(l, anySlat(r, wide))
	}
	return j, l
}

// P5.3: a grade is the first limit that a lead is within in each truth.
func TestGradesAreSure(t *testing.T) {
	r := rand.New(rand.NewSource(4))
	seen := map[int]int{}
	for range tries / 4 {
		j, slats := closing(r, 2)
		limits := rising(r, 50)
		got, e := Grades(j, slats[0], slats[1], limits)
		want := slices.Repeat([]int{0}, j.Grooves)
		corners(j, slats[0], slats[1], func(u truth) {
			for groove := range want {
				for want[groove] < len(limits) && !u.isCentred(groove, limits[want[groove]]) {
					want[groove]++
				}
			}
		})
		for groove, g := range want {
			if g == len(limits) {
				want[groove] = api.NoGrade
			}
			seen[want[groove]]++
		}
		if !slices.Equal(got, want) || e != api.OK {
			t.Errorf("Grades(%v, %v, %v) = %v, error %d, not %v", j, slats, limits, got, e, want)
		}
	}
	if min(seen[api.NoGrade], seen[0], seen[1], seen[2], seen[3]) < tries/50 {
		t.Errorf("only some kinds of results are tested: %v", seen)
	}
}

// centredIn returns how many leads of a sandwich are surely within a limit, and whether it always closes.
func centredIn(t *testing.T, j api.Jig, lower, upper api.Slat, limit int) (leads int, ok bool) {
	t.Helper()
	grades, e := Grades(j, lower, upper, []int{limit})
	if e == api.ErrState {
		return 0, false
	}
	if e != api.OK {
		t.Fatalf("Grades(%v, %v, %v, %d): error %d", j, lower, upper, limit, e)
	}
	for _, g := range grades {
		if g == 0 {
			leads++
		}
	}
	return leads, true
}

// bestOfAll returns the first of all lists of pairs with which most leads are centred, and how many these are.
func bestOfAll(t *testing.T, j api.Jig, lower, upper []api.Slat, limit int) (best []int, most int) {
	var leads [api.MaxSlats][api.MaxSlats]int
	var ok [api.MaxSlats][api.MaxSlats]bool
	for i, l := range lower {
		for k, u := range upper {
			leads[i][k], ok[i][k] = centredIn(t, j, l, u, limit)
		}
	}
	most = -1
	var grow func(with []int, many int)
	grow = func(with []int, many int) {
		at := len(with)
		if at == len(lower) {
			if many > most {
				best, most = slices.Clone(with), many
			}
			return
		}
		for k := range upper {
			if ok[at][k] && !slices.Contains(with, k) {
				grow(append(with, k), many+leads[at][k])
			}
		}
		grow(append(with, api.NoSlat), many)
	}
	grow(nil, 0)
	return best, most
}

// anyStock returns a jig, and lower and upper slats of which some close.
func anyStock(r *rand.Rand, lower, upper int) (api.Jig, []api.Slat, []api.Slat) {
	j := anyJig(r, 2)
	j.Play = 4 + r.Intn(16)
	j.Lead = around(r, 2, 1995, 2012)
	list := func(many int) []api.Slat {
		var l []api.Slat
		for range many {
			l = append(l, anySlat(r, 2))
		}
		return l
	}
	return j, list(lower), list(upper)
}

// P5.4, P5.7: no other pairs centre more leads, and none that centre as many come first.
func TestNoBetterPairs(t *testing.T) {
	r := rand.New(rand.NewSource(5))
	left, none, turned, spared := 0, 0, 0, 0
	for i := range tries {
		most := 5
		if i%100 == 0 {
			most = api.MaxSlats
		}
		j, lower, upper := anyStock(r, min(most, r.Intn(most+3)), min(most, r.Intn(most+3)))
		limit := 5 + r.Intn(35)
		want, leads := bestOfAll(t, j, lower, upper, limit)
		with, n, e := Pair(j, lower, upper, limit)
		if !slices.Equal(with, want) || n != leads || e != api.OK {
			t.Errorf("Pair(%v, %v, %v, %d) = %v, %d, error %d, not %v, %d", j, lower, upper, limit, with, n, e, want, leads)
		}
		switch {
		case leads == 0:
			none++
		case !slices.IsSorted(want):
			turned++
		}
		if slices.Contains(want, api.NoSlat) && len(lower) <= len(upper) {
			left++
		}
		for at, k := range want {
			fits := func(u api.Slat) bool { _, ok := centredIn(t, j, lower[at], u, limit); return ok }
			if first := slices.IndexFunc(upper, fits); first >= 0 && first != k && !slices.Contains(want[:at], first) {
				spared++
				break
			}
		}
	}
	if min(none, left, turned, spared) < tries/20 {
		t.Errorf("only some kinds of results are tested: %d none, %d left, %d turned, %d spared", none, left, turned, spared)
	}
}

// centredAt returns how many leads that can lie off so far are surely within a limit with a setting.
func centredAt(sides, heights []api.Span, s setting, limit int) int {
	many := 0
	for i := range sides {
		isIn := true
		for _, x := range []int{sides[i].Lo, sides[i].Hi} {
			for _, y := range []int{heights[i].Lo, heights[i].Hi} {
				x, y := x-2*s.side, y-2*s.height
				isIn = isIn && x*x+y*y <= 4*limit*limit
			}
		}
		if isIn {
			many++
		}
	}
	return many
}

// bestOfSettings returns the first of all settings with which most leads are centred, and how many these are.
func bestOfSettings(t *testing.T, j api.Jig, lower, upper []api.Slat, limit int) (best setting, most int) {
	var sides, heights []api.Span
	for i := range lower {
		for groove := range j.Grooves {
			s, h, e := Off(j, lower[i], upper[i], groove)
			if e != api.OK {
				t.Fatalf("Off(%v, %v, %v, %d): error %d", j, lower[i], upper[i], groove, e)
			}
			sides, heights = append(sides, s), append(heights, h)
		}
	}
	far := func(s setting) int { return max(s.side, -s.side) + max(s.height, -s.height) }
	most = -1
	for side := -api.MaxSet; side <= api.MaxSet; side++ {
		for height := -api.MaxSet; height <= api.MaxSet; height++ {
			s := setting{side, height}
			if n := centredAt(sides, heights, s, limit); n > most || n == most && far(s) < far(best) {
				best, most = s, n
			}
		}
	}
	return best, most
}

// P5.5, P5.7: no other setting centres more leads, and none that centres as many is to be preferred; and Grades finds as many leads with it.
func TestNoBetterSetting(t *testing.T) {
	r := rand.New(rand.NewSource(6))
	seen := map[string]int{}
	for range tries / 5 {
		many := 1 + r.Intn(4)
		j, slats := closing(r, 2*many)
		lower, upper := slats[:many], slats[many:]
		limit := r.Intn(18)
		want, most := bestOfSettings(t, j, lower, upper, limit)
		s, h, leads, e := Tune(j, lower, upper, limit)
		if s != want.side || h != want.height || leads != most || e != api.OK {
			t.Errorf("Tune(%v, %v, %v, %d) = %d, %d, %d, error %d, not %v, %d", j, lower, upper, limit, s, h, leads, e, want, most)
		}
		set := j
		set.Side, set.Height = span(j.Side.Lo+s, j.Side.Hi+s), span(j.Height.Lo+h, j.Height.Hi+h)
		found := 0
		for i := range lower {
			n, ok := centredIn(t, set, lower[i], upper[i], limit)
			if !ok {
				t.Errorf("%v, %v, %v: what was set does not close", set, lower[i], upper[i])
			}
			found += n
		}
		if found != leads {
			t.Errorf("Grades(%v, %v, %v, %d) finds %d leads, not %d", set, lower, upper, limit, found, leads)
		}
		switch {
		case most == 0:
			seen["none"]++
		case most < many*j.Grooves:
			seen["some"]++
		default:
			seen["all"]++
		}
		if s*h != 0 {
			seen["both ways"]++
		}
	}
	if min(seen["none"], seen["some"], seen["all"], seen["both ways"]) < tries/50 {
		t.Errorf("only some kinds of results are tested: %v", seen)
	}
}

// P5.7: with one slat more, or a greater limit, Pair centres no fewer leads.
func TestNoFewerLeads(t *testing.T) {
	r := rand.New(rand.NewSource(7))
	more := map[string]int{}
	for range tries {
		j, lower, upper := anyStock(r, 1+r.Intn(api.MaxSlats), 1+r.Intn(api.MaxSlats))
		limit := r.Intn(40)
		centred := func(lower, upper []api.Slat, limit int) int {
			_, n, e := Pair(j, lower, upper, limit)
			if e != api.OK {
				t.Fatalf("Pair(%v, %v, %v, %d): error %d", j, lower, upper, limit, e)
			}
			return n
		}
		n := centred(lower, upper, limit)
		at := r.Intn(len(lower))
		for name, other := range map[string]int{
			"lower": centred(slices.Delete(slices.Clone(lower), at, at+1), upper, limit),
			"upper": centred(lower, upper[:len(upper)-1], limit),
			"limit": centred(lower, upper, r.Intn(limit+1)),
		} {
			if other > n {
				t.Errorf("Pair(%v, %v, %v, %d) centres %d leads, but %d with less of %s", j, lower, upper, limit, n, other, name)
			}
			if other < n {
				more[name]++
			}
		}
	}
	if min(more["lower"], more["upper"], more["limit"]) < tries/20 {
		t.Errorf("only some kinds of results are tested: %v", more)
	}
}

// narrower returns a span within another one.
func narrower(r *rand.Rand, s api.Span) api.Span {
	lo := s.Lo + r.Intn(s.Hi-s.Lo+1)
	return span(lo, lo+r.Intn(s.Hi-lo+1))
}

func narrowerSlat(r *rand.Rand, s api.Slat) api.Slat {
	return api.Slat{Thick: narrower(r, s.Thick), Depth: narrower(r, s.Depth), Shift: narrower(r, s.Shift), Pitch: narrower(r, s.Pitch)}
}

func narrowerJig(r *rand.Rand, j api.Jig) api.Jig {
	j.Glue, j.Lead, j.Side, j.Height = narrower(r, j.Glue), narrower(r, j.Lead), narrower(r, j.Side), narrower(r, j.Height)
	return j
}

// P5.8: with narrower spans a lead lies off by no more, at either end; what always closes still does, and what never does still does not.
func TestNarrowerSpans(t *testing.T) {
	r := rand.New(rand.NewSource(8))
	less, sure := 0, 0
	for range tries * 2 {
		j, lower, upper := anyOf(r)
		if r.Intn(2) == 0 {
			j, lower, upper = snug(r)
		}
		jn, ln, un := narrowerJig(r, j), narrowerSlat(r, lower), narrowerSlat(r, upper)
		groove := r.Intn(j.Grooves)
		s, h, _ := Off(j, lower, upper, groove)
		sn, hn, e := Off(jn, ln, un, groove)
		if e != api.OK || sn.Lo < s.Lo || sn.Hi > s.Hi || hn.Lo < h.Lo || hn.Hi > h.Hi {
			t.Errorf("Off(%v, %v, %v, %d) = %v, %v, error %d, but %v, %v with wider spans", jn, ln, un, groove, sn, hn, e, s, h)
		}
		if sn != s && hn != h {
			less++
		}
		n, _ := Closes(j, lower, upper)
		nn, e := Closes(jn, ln, un)
		if e != api.OK || n != api.ClosesPerhaps && nn != n {
			t.Errorf("Closes(%v, %v, %v) = %d, error %d, but %d with wider spans", jn, ln, un, nn, e, n)
		}
		if nn != n {
			sure++
		}
	}
	if less < tries/10 || sure < tries/10 {
		t.Errorf("only some kinds of results are tested: %d less, %d sure", less, sure)
	}
}

// P5.8: with narrower spans no grade is worse.
func TestNoWorseGrades(t *testing.T) {
	r := rand.New(rand.NewSource(9))
	better := 0
	for range tries {
		j, slats := closing(r, 2)
		limits := rising(r, 50)
		before, _ := Grades(j, slats[0], slats[1], limits)
		after, e := Grades(narrowerJig(r, j), narrowerSlat(r, slats[0]), narrowerSlat(r, slats[1]), limits)
		if e != api.OK || len(after) != len(before) {
			t.Fatalf("Grades(%v, %v, %v) = %v, error %d, with narrower spans", j, slats, limits, after, e)
		}
		for groove := range before {
			switch {
			case before[groove] == after[groove]:
			case after[groove] == api.NoGrade || before[groove] != api.NoGrade && after[groove] > before[groove]:
				t.Errorf("Grades(%v, %v, %v) = %v, but %v with narrower spans", j, slats, limits, before, after)
			default:
				better++
			}
		}
	}
	if better < tries/10 {
		t.Errorf("only one kind of result is tested: %d are better", better)
	}
}

// P5.8: of slats that change places the lead lies off to the side by the same; they close as they did.
func TestUpsideDown(t *testing.T) {
	r := rand.New(rand.NewSource(10))
	for range tries {
		j, lower, upper := anyOf(r)
		groove := r.Intn(j.Grooves)
		s, _, _ := Off(j, lower, upper, groove)
		if turned, _, e := Off(j, upper, lower, groove); turned != s || e != api.OK {
			t.Errorf("Off(%v, %v, %v, %d) = %v, error %d, but %v", j, upper, lower, groove, turned, e, s)
		}
		n, _ := Closes(j, lower, upper)
		if turned, e := Closes(j, upper, lower); turned != n || e != api.OK {
			t.Errorf("Closes(%v, %v, %v) = %d, error %d, but %d", j, upper, lower, turned, e, n)
		}
	}
}

// P5.8, P11: the order of upper slats makes no difference to how many leads are centred.
func TestAnyOrder(t *testing.T) {
	r := rand.New(rand.NewSource(11))
	other := 0
	for range tries / 2 {
		j, lower, upper := anyStock(r, api.MaxSlats, api.MaxSlats)
		limit := r.Intn(40)
		with, n, _ := Pair(j, lower, upper, limit)
		r.Shuffle(len(upper), func(i, k int) { upper[i], upper[k] = upper[k], upper[i] })
		turned, m, e := Pair(j, lower, upper, limit)
		if m != n || e != api.OK {
			t.Errorf("Pair(%v, %v, %v, %d) centres %d leads, error %d, but %d in another order", j, lower, upper, limit, m, e, n)
		}
		if !slices.Equal(with, turned) {
			other++
		}
	}
	if other < tries/10 {
		t.Errorf("only one kind of result is tested: %d are in another order", other)
	}
}

// A heap gives everything back that is in it, in order, also while more is put into it.
func TestHeap(t *testing.T) {
	r := rand.New(rand.NewSource(12))
	for range tries {
		h := heap[int]{isBefore: func(a, b int) bool { return a < b }}
		var in []int
		for range r.Intn(60) {
			if r.Intn(3) > 0 {
				n := r.Intn(20)
				h.put(n)
				in = append(in, n)
				slices.Sort(in)
				continue
			}
			n, ok := h.take()
			if ok != (len(in) > 0) || ok && n != in[0] {
				t.Fatalf("%d, %t was taken of %v", n, ok, in)
			}
			in = in[min(1, len(in)):]
		}
		for _, want := range in {
			if n, ok := h.take(); n != want || !ok {
				t.Fatalf("%d, %t was taken, not %d", n, ok, want)
			}
		}
		if n, ok := h.take(); n != 0 || ok {
			t.Fatalf("%d, %t was taken of nothing", n, ok)
		}
	}
}

// P5.5: all settings are tried, each of them once, and in the order in which they are preferred.
func TestAllSettings(t *testing.T) {
	open := heap[setting]{isBefore: setting.isBefore}
	open.put(setting{})
	tried := map[setting]bool{}
	before, first := setting{}, true
	for s, ok := open.take(); ok; s, ok = open.take() {
		if tried[s] || !first && !before.isBefore(s) || max(s.side, -s.side) > api.MaxSet || max(s.height, -s.height) > api.MaxSet {
			t.Fatalf("%v is tried after %v", s, before)
		}
		tried[s] = true
		before, first = s, false
		for _, u := range s.further() {
			open.put(u)
		}
	}
	if all := (2*api.MaxSet + 1) * (2*api.MaxSet + 1); len(tried) != all {
		t.Errorf("%d settings of %d are tried", len(tried), all)
	}
}
