package shade

import (
	"math/big"
	"math/rand"
	"slices"
	"testing"

	"pencilworks/api"
)

// tries is how often a property is tried.
const tries = 1500

func exact(n int) *big.Rat { return big.NewRat(int64(n), 1) }

func plus(a, b *big.Rat) *big.Rat { return new(big.Rat).Add(a, b) }

func less(a, b *big.Rat) *big.Rat { return new(big.Rat).Sub(a, b) }

func times(a, b *big.Rat) *big.Rat { return new(big.Rat).Mul(a, b) }

func over(a, b *big.Rat) *big.Rat { return new(big.Rat).Quo(a, b) }

func isFrom(s api.Span, n *big.Rat) bool {
	return exact(s.Lo).Cmp(n) <= 0 && n.Cmp(exact(s.Hi)) <= 0
}

// blackAt returns the curve at the ratio of graphite and clay, as the chapter says it.
func blackAt(c []api.Tint, graphite, clay *big.Rat) *big.Rat {
	ratio := over(times(exact(1000), graphite), plus(graphite, clay))
	for i := range c[1:] {
		a, b := c[i], c[i+1]
		if exact(a.Ratio).Cmp(ratio) <= 0 && ratio.Cmp(exact(b.Ratio)) <= 0 {
			part := over(less(ratio, exact(a.Ratio)), exact(b.Ratio-a.Ratio))
			return plus(exact(a.Black), times(part, exact(b.Black-a.Black)))
		}
	}
	panic("there is no such ratio")
}

// shows tells whether a stroke may be read as it was with some blackness: whether what is shown by all papers, from the least to the greatest, meets what was read.
func shows(s api.Stroke, black int) bool {
	least := times(exact(black), big.NewRat(int64(s.Paper.Lo), 1000))
	most := times(exact(black), big.NewRat(int64(s.Paper.Hi), 1000))
	return least.Cmp(exact(s.Read.Hi)) <= 0 && most.Cmp(exact(s.Read.Lo)) >= 0
}

// blacknesses returns all that leads can have, tried one by one.
func blacknesses(c []api.Tint, l api.Leads) []int {
	// Between these two mixes there are all those between their values.
	pale := less(blackAt(c, exact(l.Graphite.Lo), exact(l.Clay.Hi)), exact(l.Tol))
	dark := plus(blackAt(c, exact(l.Graphite.Hi), exact(l.Clay.Lo)), exact(l.Tol))
	var all []int
	for black := range api.MaxBlack + 1 {
		if pale.Cmp(exact(black)) <= 0 && exact(black).Cmp(dark) <= 0 && !slices.ContainsFunc(l.Strokes, func(s api.Stroke) bool { return !shows(s, black) }) {
			all = append(all, black)
		}
	}
	return all
}

// anySpan returns a span between two bounds, which is often narrow, and often has an end at a bound.
func anySpan(r *rand.Rand, least, most int) api.Span {
	switch lo := least + r.Intn(most-least+1); r.Intn(6) {
	case 0:
		return span(lo, lo)
	case 1:
		return span(least, lo)
	case 2:
		return span(lo, most)
	case 3:
		return span(lo, min(most, lo+1+r.Intn(5)))
	default:
		return span(lo, lo+r.Intn(most-lo+1))
	}
}

func anyCurve(r *rand.Rand) []api.Tint {
	ratios := append(r.Perm(999)[:r.Intn(api.MaxTints-1)], 999, -1)
	slices.Sort(ratios)
	blacks := make([]int, len(ratios))
	for i := range blacks {
		blacks[i] = r.Intn(api.MaxBlack + 1)
	}
	slices.Sort(blacks)
	var c []api.Tint
	for i, n := range ratios {
		c = append(c, tint(n+1, blacks[i]))
	}
	c[0].Ratio = 0
	return c
}

// truth is what may be true of leads.
type truth struct {
	graphite, clay        *big.Rat
	black, strength, wear int
}

// anyTruth returns a truth of some leads, and their tolerance.
func anyTruth(r *rand.Rand, c []api.Tint) (truth, int) {
	most := []int{5, 1000, api.MaxGrams - 1}[r.Intn(3)]
	part := big.NewRat(int64(r.Intn(2)*r.Intn(1000)), 1000)
	u := truth{graphite: plus(exact(1+r.Intn(most)), part), clay: plus(exact(r.Intn(most)), part), strength: r.Intn(api.MaxTest + 1), wear: r.Intn(api.MaxTest + 1)}
	tol := []int{1, 3, 20, api.MaxTol}[r.Intn(4)]
	curve := blackAt(c, u.graphite, u.clay)
	for {
		u.black = r.Intn(api.MaxBlack + 1)
		if less(curve, exact(u.black)).Cmp(exact(tol)) <= 0 && less(exact(u.black), curve).Cmp(exact(tol)) <= 0 {
			return u, tol
		}
	}
}

// around returns a span between two bounds, which contains a number.
func around(r *rand.Rand, n *big.Rat, least, most int) api.Span {
	floor := int(new(big.Int).Div(n.Num(), n.Denom()).Int64())
	above := floor
	if !n.IsInt() {
		above++
	}
	wide := []int{0, 1, 5, most}[r.Intn(4)]
	return span(max(least, floor-r.Intn(wide+1)), min(most, above+r.Intn(wide+1)))
}

// leadsOf returns leads of which a truth holds.
func leadsOf(r *rand.Rand, u truth, tol int) api.Leads {
	l := api.Leads{Graphite: around(r, u.graphite, 1, api.MaxGrams), Clay: around(r, u.clay, 0, api.MaxGrams), Tol: tol, Strength: around(r, exact(u.strength), 0, api.MaxTest), Wear: around(r, exact(u.wear), 0, api.MaxTest), Many: r.Intn(9)}
	for range r.Intn(api.MaxStrokes + 1) {
		paper := big.NewRat(int64(1000+r.Intn(3_999_000)), 1000)
		shown := times(exact(u.black), times(paper, big.NewRat(1, 1000)))
		if shown.Cmp(exact(api.MaxRead)) <= 0 {
			l.Strokes = append(l.Strokes, onPaper(around(r, shown, 0, api.MaxRead), around(r, paper, 1, api.MaxPaper)))
		}
	}
	return l
}

// anyLeads returns leads that have a truth.
func anyLeads(r *rand.Rand, c []api.Tint, n int) []api.Leads {
	l := make([]api.Leads, n)
	for i := range l {
		u, tol := anyTruth(r, c)
		l[i] = leadsOf(r, u, tol)
	}
	return l
}

// mustBlack returns what Black returns of leads that have a truth.
func mustBlack(t *testing.T, c []api.Tint, l api.Leads) api.Span {
	t.Helper()
	s, e := Black(c, l)
	if e != api.OK {
		t.Fatalf("Black(%v, %v): error %d", c, l, e)
	}
	return s
}

// P2.1, P2.5: the span contains all that can be, and nothing else, or there is no truth.
func TestBlackIsAllThatCanBe(t *testing.T) {
	r := rand.New(rand.NewSource(1))
	none := 0
	for range tries {
		c := anyCurve(r)
		l := anyLeads(r, c, 1)[0]
		for i := range l.Strokes { // those of another truth, so that there may be none of them all
			if r.Intn(9) == 0 {
				l.Strokes[i] = onPaper(anySpan(r, 0, 300), anySpan(r, 1, api.MaxPaper))
			}
		}
		if r.Intn(2) == 0 {
			l.Tol = 0
		}
		all := blacknesses(c, l)
		got, e := Black(c, l)
		if len(all) == 0 {
			none++
			if e != api.ErrState || got != (api.Span{}) {
				t.Errorf("Black(%v, %v) = %v, error %d", c, l, got, e)
			}
			continue
		}
		if want := span(all[0], all[len(all)-1]); e != api.OK || got != want || len(all) != want.Hi-want.Lo+1 {
			t.Errorf("Black(%v, %v) = %v, error %d, not %v", c, l, got, e, all)
		}
	}
	if none < tries/20 || none > tries*9/10 {
		t.Errorf("only one kind of result is tested: %d of %d have no truth", none, tries)
	}
}

// P2.2, P2.5, P3: a truth lies within what is said, and leads have the shades that they surely have; each other shade has a truth that is not in it.
func TestTruthsLieWithin(t *testing.T) {
	r := rand.New(rand.NewSource(2))
	had := 0
	for range tries {
		c := anyCurve(r)
		u, tol := anyTruth(r, c)
		l := leadsOf(r, u, tol)
		black := mustBlack(t, c, l)
		if u.black < black.Lo || u.black > black.Hi {
			t.Errorf("Black(%v, %v) = %v, but %v", c, l, black, u)
		}
		var s []api.Shade
		for range api.MaxTones {
			near := func(x api.Span, most int) api.Span {
				return span(max(0, x.Lo+1-r.Intn(5)), min(most, max(x.Lo+1, x.Hi-1+r.Intn(5))))
			}
			s = append(s, api.Shade{Black: near(black, api.MaxBlack), Strength: near(l.Strength, api.MaxTest), Wear: near(l.Wear, api.MaxTest)})
		}
		s = slices.DeleteFunc(s, func(x api.Shade) bool {
			return x.Black.Lo > x.Black.Hi || x.Strength.Lo > x.Strength.Hi || x.Wear.Lo > x.Wear.Hi
		})
		got, e := Has(c, s, l)
		if e != api.OK {
			t.Fatalf("Has(%v, %v, %v): error %d", c, s, l, e)
		}
		for i, x := range s {
			sure := true
			for _, b := range []int{black.Lo, u.black, black.Hi} {
				for _, strong := range []int{l.Strength.Lo, u.strength, l.Strength.Hi} {
					for _, wear := range []int{l.Wear.Lo, u.wear, l.Wear.Hi} {
						sure = sure && isFrom(x.Black, exact(b)) && isFrom(x.Strength, exact(strong)) && isFrom(x.Wear, exact(wear))
					}
				}
			}
			if slices.Contains(got, i) != sure {
				t.Errorf("Has(%v, %v, %v) = %v, but %d: %t", c, s, l, got, i, sure)
			}
		}
		if !slices.IsSorted(got) {
			t.Errorf("Has(%v, %v, %v) = %v", c, s, l, got)
		}
		had += len(got)
	}
	if had < tries/4 || had > tries*7 {
		t.Errorf("only one kind of result is tested: %d shades were had", had)
	}
}

// P2.3: the first pair is found as if each were looked at, in each truth.
func TestOrderedIsTheFirst(t *testing.T) {
	r := rand.New(rand.NewSource(3))
	none := 0
	for range tries {
		c := anyCurve(r)
		l := anyLeads(r, c, r.Intn(api.MaxLeads+1))
		as := make([]int, len(l))
		gap := r.Intn(3) * r.Intn(20)
		for i := range as {
			as[i] = r.Intn(api.MaxTones)
			if r.Intn(3) > 0 {
				as[i] = mustBlack(t, c, l[i]).Lo * (api.MaxTones - 1) / api.MaxBlack
			}
		}
		var can [][]int
		for _, x := range l {
			can = append(can, blacknesses(c, x))
		}
		wantI, wantK, want := 0, 0, api.ErrNone
		for i := len(l) - 1; i >= 0; i-- {
			for k := len(l) - 1; k >= 0; k-- {
				if as[i] < as[k] && slices.Max(can[i])+gap > slices.Min(can[k]) {
					wantI, wantK, want = i, k, api.OK
				}
			}
		}
		if i, k, e := Ordered(c, l, as, gap); i != wantI || k != wantK || e != want {
			t.Errorf("Ordered(%v, %v, %v, %d) = %d, %d, error %d, not %d, %d, error %d", c, l, as, gap, i, k, e, wantI, wantK, want)
		}
		if want == api.ErrNone {
			none++
		}
	}
	if none < tries/20 || none > tries*19/20 {
		t.Errorf("only one kind of result is tested: %d of %d are in order", none, tries)
	}
}

// allCuts calls a function with all cuts of a scale, in lexicographic order.
func allCuts(s api.Scale, see func(cuts []int)) {
	var grow func(cuts []int)
	grow = func(cuts []int) {
		if len(cuts) > s.Shades {
			see(cuts)
			return
		}
		last := cuts[len(cuts)-1]
		for next := last + s.Least; next <= last+s.Most && next <= api.MaxBlack; next++ {
			grow(append(cuts, next))
		}
	}
	for first := range api.MaxBlack + 1 {
		grow(append(make([]int, 0, api.MaxTones+1), first))
	}
}

// fits returns the shade of some cuts that leads fit, or that there is none.
func fits(black api.Span, gap int, cuts []int) (int, bool) {
	for k := range len(cuts) - 1 {
		if cuts[k] <= black.Lo && black.Hi+gap <= cuts[k+1] {
			return k, true
		}
	}
	return 0, false
}

// smallScale returns a scale that has not too many cuts, or none.
func smallScale(r *rand.Rand) api.Scale {
	shades := 1 + r.Intn(api.MaxTones)
	full := api.MaxBlack / shades
	least := 1 + r.Intn(full)
	more := []int{0, 199, 20, 8, 4, 2, 1, 1, 1}[shades]
	switch r.Intn(8) {
	case 0:
		least, more = full, api.MaxBlack-full // wide at will, because there is hardly any room
	case 1:
		least, more = min(full+1, api.MaxBlack), 0
	}
	return scale(shades, least, min(api.MaxBlack, least+r.Intn(more+1)), 1+r.Intn(min(least, 12)))
}

// cutLeads returns leads that are rather well known.
func cutLeads(r *rand.Rand, n int) []api.Leads {
	l := make([]api.Leads, n)
	for i := range l {
		l[i] = kilogram(1+r.Intn(1000), 1+r.Intn(9), r.Intn(50)*r.Intn(50))
	}
	return l
}

// perShade returns how much a shade sells between any two cuts.
func perShade(t *testing.T, l []api.Leads, gap int) (between [api.MaxBlack + 1][api.MaxBlack + 1]int) {
	t.Helper()
	for _, x := range l {
		black := mustBlack(t, even(), x)
		for from := range between {
			for to := range between {
				if _, ok := fits(black, gap, []int{from, to}); ok {
					between[from][to] += x.Many
				}
			}
		}
	}
	return between
}

// P2.4, P2.6: no cuts sell more, and none of those that sell as much come first.
func TestNoBetterCuts(t *testing.T) {
	r := rand.New(rand.NewSource(4))
	none, sold := 0, 0
	for range 120 {
		l, s := cutLeads(r, r.Intn(api.MaxLeads+1)), smallScale(r)
		between := perShade(t, l, s.Gap)
		var best []int
		most := -1
		allCuts(s, func(cuts []int) {
			sum := 0
			for k := range s.Shades {
				sum += between[cuts[k]][cuts[k+1]]
			}
			if sum > most {
				best, most = slices.Clone(cuts), sum
			}
		})
		cuts, many, e := Cut(even(), l, s)
		if best == nil {
			none++
			if e != api.ErrNone || len(cuts) > 0 || many != 0 {
				t.Errorf("Cut(%v, %v) = %v, %d, error %d", l, s, cuts, many, e)
			}
			continue
		}
		if e != api.OK || !slices.Equal(cuts, best) || many != most {
			t.Errorf("Cut(%v, %v) = %v, %d, error %d, not %v, %d", l, s, cuts, many, e, best, most)
		}
		if many > 0 {
			sold++
		}
	}
	if none < 3 || sold < 50 {
		t.Errorf("only one kind of result is tested: %d have no cuts, %d sell", none, sold)
	}
}

// sells returns how much can be sold by a scale, of which there are cuts.
func sells(t *testing.T, c []api.Tint, l []api.Leads, s api.Scale) int {
	t.Helper()
	_, many, e := Cut(c, l, s)
	if e != api.OK {
		t.Fatalf("Cut(%v, %v, %v): error %d", c, l, s, e)
	}
	return many
}

// P2.6: with one batch more, a lesser Gap or Least, or a greater Most no fewer can be sold.
func TestNoFewerAreSold(t *testing.T) {
	r := rand.New(rand.NewSource(5))
	for range tries / 5 {
		l, s := cutLeads(r, api.MaxLeads), smallScale(r)
		_, many, e := Cut(even(), l[1:], s)
		if e != api.OK {
			continue
		}
		wider, closer, narrower := s, s, s
		wider.Most = s.Most + r.Intn(api.MaxBlack-s.Most+1)
		closer.Gap = 1 + r.Intn(s.Gap)
		narrower.Least = s.Gap + r.Intn(s.Least-s.Gap+1)
		for _, x := range []api.Scale{wider, closer, narrower} {
			if n := sells(t, even(), l[1:], x); n < many {
				t.Errorf("%v: %d are sold by %v, but %d by %v", l[1:], many, s, n, x)
			}
		}
		if n := sells(t, even(), l, s); n < many {
			t.Errorf("%d are sold of %v by %v, but %d with %v", many, l[1:], s, n, l[0])
		}
	}
}

// P2.5, P4: leads that fit shades of some cuts are surely in order.
func TestFittingLeadsAreInOrder(t *testing.T) {
	r := rand.New(rand.NewSource(6))
	for range tries / 5 {
		l, s := cutLeads(r, api.MaxLeads), smallScale(r)
		cuts, many, e := Cut(even(), l, s)
		if e != api.OK {
			continue
		}
		var fit []api.Leads
		var as []int
		sum := 0
		for _, x := range l {
			if k, ok := fits(mustBlack(t, even(), x), s.Gap, cuts); ok {
				fit, as, sum = append(fit, x), append(as, k), sum+x.Many
			}
		}
		if i, k, e := Ordered(even(), fit, as, s.Gap); e != api.ErrNone || sum != many {
			t.Errorf("Ordered(%v, %v, %d) = %d, %d, error %d; %d of %d are sold", fit, as, s.Gap, i, k, e, many, sum)
		}
	}
}

// P2.7: with one stroke more, a lesser Tol, or narrower spans no span is wider, and no fewer shades are surely had.
func TestMoreIsKnown(t *testing.T) {
	r := rand.New(rand.NewSource(7))
	narrower := 0
	for range tries {
		c := anyCurve(r)
		u, tol := anyTruth(r, c)
		l, more := leadsOf(r, u, tol), leadsOf(r, u, tol)
		wide := mustBlack(t, c, l)
		s := []api.Shade{{Black: wide, Strength: l.Strength, Wear: l.Wear}, {Black: span(0, api.MaxBlack), Strength: l.Strength, Wear: l.Wear}}
		surer := l
		switch r.Intn(4) {
		case 0:
			surer.Strokes = slices.Concat(l.Strokes, more.Strokes)[:min(api.MaxStrokes, len(l.Strokes)+len(more.Strokes))]
		case 1:
			surer.Tol = r.Intn(l.Tol + 1)
		case 2:
			surer.Graphite = common(l.Graphite, more.Graphite)
		case 3:
			surer.Clay = common(l.Clay, more.Clay)
		}
		got, e := Black(c, surer)
		if e == api.ErrState {
			continue
		}
		if e != api.OK || got.Lo < wide.Lo || got.Hi > wide.Hi {
			t.Errorf("Black(%v, %v) = %v, error %d, but %v of %v", c, surer, got, e, wide, l)
		}
		if had, e := Has(c, s, surer); e != api.OK || !slices.Equal(had, []int{0, 1}) {
			t.Errorf("Has(%v, %v, %v) = %v, error %d", c, s, surer, had, e)
		}
		if got != wide {
			narrower++
		}
	}
	if narrower < tries/20 {
		t.Errorf("only one kind of result is tested: %d spans are narrower", narrower)
	}
}

// doubled returns a span twice as great.
func doubled(s api.Span) api.Span { return span(2*s.Lo, 2*s.Hi) }

// P2.7, P11: twice as much of all, and the order of strokes, make no difference; more graphite makes neither end less.
func TestNoDifference(t *testing.T) {
	r := rand.New(rand.NewSource(8))
	for range tries {
		c := anyCurve(r)
		l := anyLeads(r, c, 1)[0]
		l.Graphite, l.Clay = anySpan(r, 1, api.MaxGrams/2), anySpan(r, 0, api.MaxGrams/2)
		black, e := Black(c, l)
		twice, back, richer := l, l, l
		twice.Graphite, twice.Clay = doubled(l.Graphite), doubled(l.Clay)
		back.Strokes = slices.Clone(l.Strokes)
		slices.Reverse(back.Strokes)
		for _, x := range []api.Leads{twice, back} {
			if got, f := Black(c, x); got != black || f != e {
				t.Errorf("Black(%v, %v) = %v, error %d, but %v, error %d of %v", c, l, black, e, got, f, x)
			}
		}
		richer.Graphite.Hi += r.Intn(api.MaxGrams / 2)
		richer.Graphite.Lo += r.Intn(richer.Graphite.Hi - richer.Graphite.Lo + 1)
		if got, f := Black(c, richer); e == api.OK && f == api.OK && (got.Lo < black.Lo || got.Hi < black.Hi) {
			t.Errorf("Black(%v, %v) = %v, but %v of %v", c, l, black, got, richer)
		}
	}
}

// P2.7, P11: the order of leads that are cut makes no difference.
func TestOrderOfLeadsMakesNoDifference(t *testing.T) {
	r := rand.New(rand.NewSource(9))
	for range tries / 5 {
		l, s := cutLeads(r, 1+r.Intn(api.MaxLeads)), smallScale(r)
		cuts, many, e := Cut(even(), l, s)
		shuffled := slices.Clone(l)
		r.Shuffle(len(l), func(i, k int) { shuffled[i], shuffled[k] = shuffled[k], shuffled[i] })
		if c, n, f := Cut(even(), shuffled, s); !slices.Equal(c, cuts) || n != many || f != e {
			t.Errorf("Cut(%v, %v) = %v, %d, error %d, but %v, %d, error %d of %v", l, s, cuts, many, e, c, n, f, shuffled)
		}
	}
}
