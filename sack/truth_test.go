package sack

import (
	"math/big"
	"math/rand"
	"slices"
	"testing"

	"pencilworks/api"
)

// These tests hold the package against a second reckoning: exact fractions, take by take, straight from the chapter's terms.

const tries = 150

func exact(n int) *big.Rat { return big.NewRat(int64(n), 1) }

func plus(a, b *big.Rat) *big.Rat { return new(big.Rat).Add(a, b) }

func less(a, b *big.Rat) *big.Rat { return new(big.Rat).Sub(a, b) }

// thousandths returns a times b, divided by 1000.
func thousandths(a, b *big.Rat) *big.Rat {
	p := new(big.Rat).Mul(a, b)
	return p.Quo(p, exact(1000))
}

// truth is water, carbon and loss of each sack, and the weight of each take.
type truth struct {
	sacks [][3]*big.Rat
	takes []*big.Rat
}

// parts returns water, carbon, smoke, clay and lead of a batch in a truth.
func (u truth) parts(b []api.Take) [5]*big.Rat {
	var sum [5]*big.Rat
	for i := range sum {
		sum[i] = new(big.Rat)
	}
	for i, t := range b {
		s, m := u.sacks[t.Sack], u.takes[i]
		water := thousandths(m, s[0])
		dry := less(m, water)
		carbon := thousandths(dry, s[1])
		rest := less(dry, carbon)
		smoke := thousandths(rest, s[2])
		clay := less(rest, smoke)
		for i, part := range []*big.Rat{water, carbon, smoke, clay, plus(carbon, clay)} {
			sum[i] = plus(sum[i], part)
		}
	}
	return sum
}

// share returns the share of a batch in a truth.
func (u truth) share(b []api.Take) *big.Rat {
	p := u.parts(b)
	s := new(big.Rat).Quo(p[1], p[4])
	return s.Mul(s, exact(1000))
}

// wet returns the thousandths of water of a batch to which some grams of water were added.
func (u truth) wet(b []api.Take, grams int) *big.Rat {
	all := exact(grams)
	for _, m := range u.takes {
		all = plus(all, m)
	}
	w := plus(u.parts(b)[0], exact(grams))
	w.Quo(w, all)
	return w.Mul(w, exact(1000))
}

// spansOf returns all that is not known of sacks and a batch.
func spansOf(l []api.Sack, b []api.Take) []api.Span {
	var all []api.Span
	for _, s := range l {
		all = append(all, s.Water, s.Carbon, s.Loss)
	}
	for _, t := range b {
		all = append(all, t.Weight)
	}
	return all
}

// build returns the truth in which each number is that which pick chooses for its span.
func build(l []api.Sack, b []api.Take, pick func(i int, s api.Span) *big.Rat) truth {
	var n []*big.Rat
	for i, s := range spansOf(l, b) {
		n = append(n, pick(i, s))
	}
	u := truth{takes: n[3*len(l):]}
	for i := range l {
		u.sacks = append(u.sacks, [3]*big.Rat(n[3*i:3*i+3]))
	}
	return u
}

// outermost returns all truths in which each number is at an end of its span: a share, and all parts, have their ends at some of them.
func outermost(l []api.Sack, b []api.Take) []truth {
	var vague []int
	for i, s := range spansOf(l, b) {
		if s.Lo < s.Hi {
			vague = append(vague, i)
		}
	}
	var all []truth
	for set := range 1 << len(vague) {
		all = append(all, build(l, b, func(i int, s api.Span) *big.Rat {
			if k := slices.Index(vague, i); k >= 0 && set>>k&1 == 1 {
				return exact(s.Hi)
			}
			return exact(s.Lo)
		}))
	}
	return all
}

// somewhere returns a truth with fractions that lie anywhere in their spans.
func somewhere(r *rand.Rand, l []api.Sack, b []api.Take) truth {
	return build(l, b, func(_ int, s api.Span) *big.Rat {
		return plus(exact(s.Lo), thousandths(exact(s.Hi-s.Lo), exact(r.Intn(1001))))
	})
}

// rounded returns the span from the least of some numbers, rounded down, to the greatest one, rounded up.
func rounded(l []*big.Rat) api.Span {
	lo := slices.MinFunc(l, (*big.Rat).Cmp)
	hi := slices.MaxFunc(l, (*big.Rat).Cmp)
	floor := new(big.Int).Div(lo.Num(), lo.Denom())
	above := new(big.Int).Div(new(big.Int).Neg(hi.Num()), hi.Denom())
	return api.Span{Lo: int(floor.Int64()), Hi: -int(above.Int64())}
}

func holds(s api.Span, n *big.Rat) bool {
	return exact(s.Lo).Cmp(n) <= 0 && n.Cmp(exact(s.Hi)) <= 0
}

// anySpan returns a span between two bounds, which is often narrow, and often has an end at a bound.
func anySpan(r *rand.Rand, least, most int) api.Span {
	switch lo := least + r.Intn(most-least+1); r.Intn(6) {
	case 0:
		return span(lo, lo)
	case 1:
		return span(least, lo)
	case 2:
		return span(lo, most)
	case 3:
		return span(lo, min(most, lo+1+r.Intn(5)))
	default:
		return span(lo, lo+r.Intn(most-lo+1))
	}
}

func anySacks(r *rand.Rand, n int) []api.Sack {
	l := make([]api.Sack, n)
	for i := range l {
		l[i] = api.Sack{Water: anySpan(r, 0, api.MaxWet), Carbon: anySpan(r, 0, api.MaxThou), Loss: anySpan(r, 0, api.MaxWet)}
	}
	return l
}

func anyBatch(r *rand.Rand, sacks, n, most int) []api.Take {
	b := make([]api.Take, n)
	for i := range b {
		b[i] = api.Take{Sack: r.Intn(sacks), Weight: anySpan(r, 1, most)}
	}
	return b
}

// known returns what Weigh and Share return of a batch.
func known(t *testing.T, l []api.Sack, b []api.Take) [6]api.Span {
	t.Helper()
	p, e := Weigh(l, b)
	s, f := Share(l, b)
	if e != api.OK || f != api.OK {
		t.Fatalf("%v, %v: errors %d, %d", l, b, e, f)
	}
	return [6]api.Span{p.Water, p.Carbon, p.Smoke, p.Clay, p.Lead, s}
}

// P1.1, P1.2, P1.6: both ends of each span are the rounding of what is reached.
func TestEndsAreReached(t *testing.T) {
	r := rand.New(rand.NewSource(1))
	for range tries {
		l := anySacks(r, 1+r.Intn(2))
		b := anyBatch(r, len(l), 1+r.Intn(3), []int{9, 2000, api.MaxTake}[r.Intn(3)])
		var reached [6][]*big.Rat
		for _, u := range outermost(l, b) {
			for i, part := range u.parts(b) {
				reached[i] = append(reached[i], part)
			}
			reached[5] = append(reached[5], u.share(b))
		}
		for i, got := range known(t, l, b) {
			if want := rounded(reached[i]); got != want {
				t.Errorf("%v, %v: part %d is %v, not %v", l, b, i, got, want)
			}
		}
	}
}

// P1.6, P2, P3: each truth lies within the spans, and its parts are together what was weighed.
func TestTruthsLieWithin(t *testing.T) {
	r := rand.New(rand.NewSource(2))
	for range tries {
		l := anySacks(r, 1+r.Intn(api.MaxSacks))
		b := anyBatch(r, len(l), 1+r.Intn(api.MaxTakes), api.MaxTake)
		spans := known(t, l, b)
		for range 5 {
			u := somewhere(r, l, b)
			p := u.parts(b)
			for i, n := range append(p[:], u.share(b)) {
				if !holds(spans[i], n) {
					t.Errorf("%v, %v: %v is not within %v, part %d", l, b, n, spans[i], i)
				}
			}
		}
	}
}

// P2: what is known exactly, and without rounding, is conserved.
func TestConserved(t *testing.T) {
	r := rand.New(rand.NewSource(3))
	for range tries {
		s := sure(100*r.Intn(10), 100*r.Intn(11), 100*r.Intn(10))
		b := []api.Take{take(0, 1000, 1000), take(0, 2000, 2000)}
		p, e := Weigh([]api.Sack{s}, b)
		if e != api.OK || p.Water.Lo+p.Carbon.Lo+p.Smoke.Lo+p.Clay.Lo != 3000 || p.Water.Hi+p.Carbon.Hi+p.Smoke.Hi+p.Clay.Hi != 3000 || p.Lead.Lo != p.Carbon.Lo+p.Clay.Lo {
			t.Errorf("%v: %v, error %d", s, p, e)
		}
	}
}

// P1.6, P11: neither the order of takes makes a difference, nor that of sacks, nor whether two takes are made one.
func TestOrderMakesNoDifference(t *testing.T) {
	r := rand.New(rand.NewSource(4))
	for range tries {
		l := anySacks(r, 1+r.Intn(4))
		b := anyBatch(r, len(l), 2+r.Intn(6), 10_000)
		b[1].Sack = b[0].Sack
		want := anySpan(r, 0, api.MaxThou-1)
		spans := known(t, l, b)
		water, e := Water(l, b, want)
		one := slices.Clone(b[1:])
		one[0].Weight = span(b[0].Weight.Lo+b[1].Weight.Lo, b[0].Weight.Hi+b[1].Weight.Hi)
		shuffled := slices.Clone(b)
		r.Shuffle(len(b), func(i, k int) { shuffled[i], shuffled[k] = shuffled[k], shuffled[i] })
		back := slices.Clone(l)
		slices.Reverse(back)
		renamed := slices.Clone(b)
		for i := range renamed {
			renamed[i].Sack = len(l) - 1 - b[i].Sack
		}
		for _, c := range []struct {
			l []api.Sack
			b []api.Take
		}{{l, one}, {l, shuffled}, {back, renamed}} {
			if got := known(t, c.l, c.b); got != spans {
				t.Errorf("%v, %v: %v, but %v for %v", l, b, spans, got, c)
			}
			if got, f := Water(c.l, c.b, want); got != water || f != e {
				t.Errorf("%v, %v, %v: %v, error %d, but %v, error %d for %v", l, b, want, water, e, got, f, c)
			}
		}
	}
}

// P1.6: parts of several takes are those of each take together, but for the rounding; each take is rounded by less than a gram.
func TestPartsAreThoseOfTakes(t *testing.T) {
	r := rand.New(rand.NewSource(5))
	for range tries {
		l := anySacks(r, 3)
		b := anyBatch(r, len(l), len(l), api.MaxTake)
		for i := range b {
			b[i].Sack = i // those out of one sack would share its truth, and need not reach their ends together
		}
		var sum [5]api.Span
		for _, one := range b {
			for i, s := range known(t, l, []api.Take{one}) {
				if i < len(sum) {
					sum[i].Lo += s.Lo
					sum[i].Hi += s.Hi
				}
			}
		}
		for i, s := range known(t, l, b) {
			if i < len(sum) && (s.Lo < sum[i].Lo || s.Lo >= sum[i].Lo+len(b) || s.Hi > sum[i].Hi || s.Hi <= sum[i].Hi-len(b)) {
				t.Errorf("%v, %v: part %d is %v, but %v of the takes", l, b, i, s, sum[i])
			}
		}
	}
}

// narrow returns a span within a span.
func narrow(r *rand.Rand, s api.Span) api.Span { return anySpan(r, s.Lo, s.Hi) }

// P1.6: with narrower spans nothing is wider, and what does for all truths does for fewer ones.
func TestNarrowerSpans(t *testing.T) {
	r := rand.New(rand.NewSource(6))
	for range tries {
		l := anySacks(r, 2)
		b := anyBatch(r, len(l), 4, 500)
		surer, fewer := slices.Clone(l), slices.Clone(b)
		for i, s := range l {
			surer[i] = api.Sack{Water: narrow(r, s.Water), Carbon: narrow(r, s.Carbon), Loss: narrow(r, s.Loss)}
		}
		for i, k := range b {
			fewer[i].Weight = narrow(r, k.Weight)
		}
		wide := known(t, l, b)
		for i, s := range known(t, surer, fewer) {
			if s.Lo < wide[i].Lo || s.Hi > wide[i].Hi {
				t.Errorf("%v, %v: part %d is %v, but %v of wider spans", surer, fewer, i, s, wide[i])
			}
		}
		want := anySpan(r, 0, api.MaxThou-1)
		if water, e := Water(l, b, want); e == api.OK {
			if got, f := Water(surer, fewer, want); f != api.OK || got.Lo > water.Lo || got.Hi < water.Hi {
				t.Errorf("%v, %v, %v: %v, error %d, but %v of wider spans", surer, fewer, want, got, f, water)
			}
		}
		if grams, e := Mix(l, 0, 1, 300, want); e == api.OK {
			if got, f := Mix(surer, 0, 1, 300, want); f != api.OK || got.Lo > grams.Lo || got.Hi < grams.Hi {
				t.Errorf("%v, %v: %v, error %d, but %v of wider spans", surer, want, got, f, grams)
			}
		}
	}
}

// P1.3: all grams that Water returns do in each truth, and no others.
func TestWaterIsAllThatDoes(t *testing.T) {
	const most = 12 * 39 // grams that the batches below need at most, with 975 thousandths wanted
	r := rand.New(rand.NewSource(7))
	found := 0
	for range tries {
		l := anySacks(r, 1+r.Intn(2))
		b := anyBatch(r, len(l), 1+r.Intn(2), 6)
		want := anySpan(r, 0, 975)
		truths := outermost(l, b)
		got, e := Water(l, b, want)
		for grams := range most + 1 {
			does := !slices.ContainsFunc(truths, func(u truth) bool { return !holds(want, u.wet(b, grams)) })
			if is := e == api.OK && got.Lo <= grams && grams <= got.Hi; is != does {
				t.Fatalf("%v, %v, %v: Water = %v, error %d, but for %d grams %t", l, b, want, got, e, grams, does)
			}
		}
		if e == api.OK {
			found++
		} else if e != api.ErrNone || got != (api.Span{}) {
			t.Errorf("%v, %v, %v: Water = %v, error %d", l, b, want, got, e)
		}
	}
	if found < tries/10 || found > tries*9/10 {
		t.Errorf("only one kind of result is tested: %d of %d are found", found, tries)
	}
}

// P1.4, P1.6: all grams that Mix returns have a share that Share says is within what was wanted, and no others.
func TestMixIsAllThatDoes(t *testing.T) {
	r := rand.New(rand.NewSource(8))
	found := 0
	for range tries {
		l := anySacks(r, 3)
		first := r.Intn(3)
		second := (first + 1 + r.Intn(2)) % 3
		total := 2 + r.Intn(60)
		want := anySpan(r, 0, api.MaxThou)
		got, e := Mix(l, first, second, total, want)
		for n := 1; n < total; n++ {
			b := []api.Take{take(first, n, n), take(second, total-n, total-n)}
			s, f := Share(l, b)
			does := f == api.OK && want.Lo <= s.Lo && s.Hi <= want.Hi
			if is := e == api.OK && got.Lo <= n && n <= got.Hi; is != does {
				t.Fatalf("%v, %d, %d, %d, %v: Mix = %v, error %d, but the share of %d is %v", l, first, second, total, want, got, e, n, s)
			}
		}
		if e == api.OK {
			found++
		} else if e != api.ErrNone || got != (api.Span{}) {
			t.Errorf("%v, %v: Mix = %v, error %d", l, want, got, e)
		}
	}
	if found < tries/10 || found > tries*9/10 {
		t.Errorf("only one kind of result is tested: %d of %d are found", found, tries)
	}
}
