package die

import (
	"math/rand"
	"slices"
	"testing"

	"pencilworks/api"
)

// tries is how often a property is tried.
const tries = 1000

// parts is of how many parts a number consists that is not known.
const parts = 12

// truth is what may be true: the wear of each die, and the shrinkage, in parts.
type truth struct {
	wear   []int
	shrink int
}

// lead returns how wide a lead is that is drawn through a die after so many parts of a hundred metres; asMuch returns so much of it.
func (u truth) lead(p api.Press, die, used int) int {
	return (p.Dies[die].Wide*parts*parts + u.wear[die]*used) * (1000*parts - u.shrink)
}

func asMuch(wide int) int { return wide * parts * parts * parts * 1000 }

// truths calls a function with each truth of a press in which each number is an integer.
func truths(p api.Press, see func(u truth)) {
	var grow func(wear []int)
	grow = func(wear []int) {
		if len(wear) < len(p.Dies) {
			s := p.Dies[len(wear)].Wear
			for n := s.Lo; n <= s.Hi; n++ {
				grow(append(slices.Clone(wear), n*parts))
			}
			return
		}
		for n := p.Shrink.Lo; n <= p.Shrink.Hi; n++ {
			see(truth{wear, n * parts})
		}
	}
	grow(nil)
}

// anyTruth returns a truth of a press.
func anyTruth(r *rand.Rand, p api.Press) truth {
	from := func(s api.Span) int {
		switch r.Intn(4) {
		case 0:
			return s.Lo * parts
		case 1:
			return s.Hi * parts
		}
		return s.Lo*parts + r.Intn((s.Hi-s.Lo)*parts+1)
	}
	u := truth{shrink: from(p.Shrink)}
	for _, d := range p.Dies {
		u.wear = append(u.wear, from(d.Wear))
	}
	return u
}

// around returns a span of some width between two bounds.
func around(r *rand.Rand, wide, least, most int) api.Span {
	lo := least + r.Intn(most-least+1)
	return span(lo, min(most, lo+r.Intn(wide+1)))
}

// anyPress returns a press whose dies are about as wide as one another, with few truths.
func anyPress(r *rand.Rand, dies int) api.Press {
	p := api.Press{Shrink: around(r, 6, 0, 120), Change: []int{0, 1, 2, 3, 10}[r.Intn(5)]}
	wide := 1 + r.Intn(3000)
	for range dies {
		p.Dies = append(p.Dies, api.Die{Wide: wide + r.Intn(100), Wear: around(r, 3, 0, 4)})
	}
	return p
}

// margin returns by how much a draw may be wider than it must be; now and then it just is too narrow.
func margin(r *rand.Rand) int {
	if r.Intn(6) == 0 {
		return -1
	}
	return r.Intn(80)
}

// anyDraws returns draws for which some plan often is good, and that plan.
func anyDraws(r *rand.Rand, p api.Press, many int) (l []api.Draw, plan []int) {
	used := make([]int, len(p.Dies))
	for range many {
		die, length := r.Intn(len(p.Dies)), 1+r.Intn(15)
		d := p.Dies[die]
		least := (d.Wide + d.Wear.Lo*used[die]) * (1000 - p.Shrink.Hi) / 1000
		used[die] += length
		most := (d.Wide+d.Wear.Hi*used[die])*(1000-p.Shrink.Lo)/1000 + 1
		lo := max(0, least-margin(r))
		l = append(l, draw(length, lo, max(lo, most+margin(r))))
		plan = append(plan, die)
	}
	return l, plan
}

// isWithin tells whether a lead is within a span.
func isWithin(s api.Span, lead int) bool { return asMuch(s.Lo) <= lead && lead <= asMuch(s.Hi) }

// P4.1, P4.6: both ends are the rounding of what is reached, in all truths of integers.
func TestWideIsWhatIsReached(t *testing.T) {
	r := rand.New(rand.NewSource(1))
	exact := 0
	for range tries {
		p := anyPress(r, 1+r.Intn(2))
		die, used := r.Intn(len(p.Dies)), r.Intn(8001)
		if r.Intn(2) == 0 {
			p.Shrink = around(r, 20, 0, api.MaxShrink)
			p.Dies[die].Wear = around(r, 20, 0, api.MaxWear)
		}
		least, most := 1<<62, -1
		truths(p, func(u truth) {
			n := u.lead(p, die, used*parts)
			least, most = min(least, n), max(most, n)
		})
		s, e := Wide(p, die, used)
		if e != api.OK || least < asMuch(s.Lo) || least >= asMuch(s.Lo+1) || most > asMuch(s.Hi) || most <= asMuch(s.Hi-1) {
			t.Errorf("Wide(%v, %d, %d) = %v, error %d, but from %d to %d, where one is %d", p, die, used, s, e, least, most, asMuch(1))
		}
		if least == asMuch(s.Lo) || most == asMuch(s.Hi) {
			exact++
		}
	}
	if exact < tries/100 || exact > tries/2 {
		t.Errorf("only one kind of result is tested: %d of %d are not rounded", exact, tries)
	}
}

// P4.6, P3: whatever is true, each lead is as wide as Wide says, and does not become thinner as its die wears.
func TestAnyLeadIsWithin(t *testing.T) {
	r := rand.New(rand.NewSource(2))
	for range tries {
		p := anyPress(r, 1+r.Intn(4))
		u := anyTruth(r, p)
		die, used, more := r.Intn(len(p.Dies)), r.Intn(8000), 0
		more = 1 + r.Intn(8000-used)
		s, e := Wide(p, die, used)
		if n := u.lead(p, die, used*parts); e != api.OK || !isWithin(s, n) {
			t.Errorf("Wide(%v, %d, %d) = %v, error %d, but %d in %v, where one is %d", p, die, used, s, e, n, u, asMuch(1))
		}
		if later, e := Wide(p, die, used+more); e != api.OK || later.Lo < s.Lo || later.Hi < s.Hi {
			t.Errorf("Wide(%v, %d, %d) = %v, error %d, but %v before", p, die, used+more, later, e, s)
		}
		if u.lead(p, die, (used+more)*parts) < u.lead(p, die, used*parts) {
			t.Errorf("%v, %d: a lead becomes thinner in %v", p, die, u)
		}
	}
}

// P4.2, P4.6: all numbers from the first to the last one are good in each truth of integers, and no others.
func TestLastIsAllThatAreGood(t *testing.T) {
	r := rand.New(rand.NewSource(3))
	none, some, all := 0, 0, 0
	for range 150 {
		p := anyPress(r, 1+r.Intn(2))
		die := r.Intn(len(p.Dies))
		p.Dies[die].Wear = around(r, 1, 0, 3)
		wide := p.Dies[die].Wide
		want := around(r, 10000, 0, wide+r.Intn(5000))
		if r.Intn(5) == 0 {
			want = span(0, 20000)
		}
		var at []truth
		truths(p, func(u truth) { at = append(at, u) })
		var good []int
		for used := range 8001 {
			isBad := func(u truth) bool { return !isWithin(want, u.lead(p, die, used*parts)) }
			if !slices.ContainsFunc(at, isBad) {
				good = append(good, used)
			}
		}
		from, to, e := Last(p, die, want)
		switch {
		case len(good) == 0:
			none++
			if from != 0 || to != 0 || e != api.ErrNone {
				t.Errorf("Last(%v, %d, %v) = %d, %d, error %d", p, die, want, from, to, e)
			}
			continue
		case len(good) == 8001:
			all++
		default:
			some++
		}
		if from != good[0] || to != good[len(good)-1] || to-from+1 != len(good) || e != api.OK {
			t.Errorf("Last(%v, %d, %v) = %d, %d, error %d, not from %d to %d", p, die, want, from, to, e, good[0], good[len(good)-1])
		}
	}
	if none < 10 || some < 30 || all < 5 {
		t.Errorf("only some kinds of results are tested: %d none, %d some, %d all", none, some, all)
	}
}

// firstBad returns the first draw of a plan of which some lead is not within its bounds in some truth of integers, after any half of a hundred metres, or how many draws there are.
func firstBad(p api.Press, l []api.Draw, plan []int) int {
	first := len(l)
	truths(p, func(u truth) {
		used := make([]int, len(p.Dies))
		for i, d := range l[:first] {
			for half := range 2*d.Length + 1 {
				if !isWithin(d.Wide, u.lead(p, plan[i], used[plan[i]]*parts+half*parts/2)) {
					first = i
					return
				}
			}
			used[plan[i]] += d.Length
		}
	})
	return first
}

// P4.3, P4.6: a plan is refused at the first draw of which some lead can be too thin or too thick, and at no other one.
func TestFollowIsWhatCanBe(t *testing.T) {
	r := rand.New(rand.NewSource(4))
	good := 0
	for range tries / 2 {
		p := anyPress(r, 1+r.Intn(2))
		l, plan := anyDraws(r, p, r.Intn(api.MaxDraws+1))
		if len(l) > 0 && r.Intn(4) == 0 {
			plan[r.Intn(len(l))] = r.Intn(len(p.Dies))
		}
		used, index, e := Follow(p, l, plan)
		first := firstBad(p, l, plan)
		if first < len(l) {
			if used != nil || index != first || e != api.ErrRefuse {
				t.Errorf("Follow(%v, %v, %v) = %v, %d, error %d, not %d", p, l, plan, used, index, e, first)
			}
			continue
		}
		good++
		want := make([]int, len(p.Dies))
		for i, d := range l {
			want[plan[i]] += d.Length
		}
		if !slices.Equal(used, want) || index != len(l) || e != api.OK {
			t.Errorf("Follow(%v, %v, %v) = %v, %d, error %d, not %v", p, l, plan, used, index, e, want)
		}
	}
	if good < tries/20 || good > tries*9/20 {
		t.Errorf("only one kind of result is tested: %d of %d are good", good, tries/2)
	}
}

// P4.6: whatever is true, each lead of a good plan, also one that is drawn between two hundreds of metres, is as wide as its draw asks for.
func TestLeadsOfGoodPlans(t *testing.T) {
	r := rand.New(rand.NewSource(5))
	good := 0
	for range tries {
		p := anyPress(r, 1+r.Intn(4))
		l, _ := anyDraws(r, p, 1+r.Intn(api.MaxDraws))
		plan, _, e := Plan(p, l)
		if e != api.OK {
			continue
		}
		good++
		u := anyTruth(r, p)
		used := make([]int, len(p.Dies))
		for i, d := range l {
			at := (used[plan[i]])*parts + r.Intn(d.Length*parts+1)
			if n := u.lead(p, plan[i], at); !isWithin(d.Wide, n) {
				t.Errorf("Plan(%v, %v) = %v, but a lead of the draw %d is %d wide in %v, where one is %d", p, l, plan, i, n, u, asMuch(1))
			}
			used[plan[i]] += d.Length
		}
	}
	if good < tries/10 || good > tries*9/10 {
		t.Errorf("only one kind of result is tested: %d of %d are good", good, tries)
	}
}

// price returns what a plan costs.
func price(p api.Press, plan []int) int {
	n := 0
	for i, die := range plan {
		n += die
		if i > 0 && die != plan[i-1] {
			n += p.Change
		}
	}
	return n
}

// bestOf returns the first of the good plans that cost least, of all plans, each of which is followed.
func bestOf(p api.Press, l []api.Draw) []int {
	var best []int
	var grow func(plan []int)
	grow = func(plan []int) {
		index, e := 0, api.OK
		if _, index, e = Follow(p, l, plan); e == api.ErrRefuse || index < len(plan) {
			return
		}
		if len(plan) == len(l) {
			if best == nil || price(p, plan) < price(p, best) {
				best = plan
			}
			return
		}
		for die := range p.Dies {
			grow(append(slices.Clone(plan), die))
		}
	}
	grow(nil)
	return best
}

// P4.4, P4.6: no good plan costs less, and none that costs as much comes first.
func TestNoCheaperPlan(t *testing.T) {
	r := rand.New(rand.NewSource(6))
	none, back, other := 0, 0, 0
	for range tries {
		p := anyPress(r, 1+r.Intn(api.MaxDies))
		l, made := anyDraws(r, p, 1+r.Intn(api.MaxDraws))
		want := bestOf(p, l)
		plan, cost, e := Plan(p, l)
		if want == nil {
			none++
			if len(plan) != 0 || cost != 0 || e != api.ErrNone {
				t.Errorf("Plan(%v, %v) = %v, %d, error %d", p, l, plan, cost, e)
			}
			continue
		}
		if !slices.Equal(plan, want) || cost != price(p, want) || e != api.OK {
			t.Errorf("Plan(%v, %v) = %v, %d, error %d, not %v, %d", p, l, plan, cost, e, want, price(p, want))
		}
		if !slices.IsSorted(want) {
			back++
		}
		if !slices.Equal(made, want) {
			other++
		}
	}
	if none < tries/10 || back < tries/10 || other < tries/10 {
		t.Errorf("only some kinds of results are tested: %d none, %d go back, %d other", none, back, other)
	}
}

// narrower returns a span within another one.
func narrower(r *rand.Rand, s api.Span) api.Span {
	lo := s.Lo + r.Intn(s.Hi-s.Lo+1)
	return span(lo, lo+r.Intn(s.Hi-lo+1))
}

// P4.6: with narrower Wear and Shrink, or wider draws, no plan that was good is bad.
func TestGoodStaysGood(t *testing.T) {
	r := rand.New(rand.NewSource(7))
	good, turned := 0, 0
	for range tries * 3 {
		p := anyPress(r, 1+r.Intn(3))
		l, plan := anyDraws(r, p, 1+r.Intn(4))
		_, _, before := Follow(p, l, plan)
		if r.Intn(2) == 0 {
			p.Shrink = narrower(r, p.Shrink)
			for i, d := range p.Dies {
				p.Dies[i].Wear = narrower(r, d.Wear)
			}
		} else {
			for i, d := range l {
				l[i].Wide = span(max(0, d.Wide.Lo-r.Intn(3)), d.Wide.Hi+r.Intn(3))
			}
		}
		_, _, after := Follow(p, l, plan)
		switch {
		case before == api.OK && after != api.OK:
			t.Errorf("Follow(%v, %v, %v): error %d, but the plan was good", p, l, plan, after)
		case before == api.OK:
			good++
		case after == api.OK:
			turned++
		}
	}
	if good < tries/10 || turned < tries/10 {
		t.Errorf("only some kinds of results are tested: %d good, %d turned good", good, turned)
	}
}

// costOf returns what the best plan costs, and more than any plan does if there is none.
func costOf(t *testing.T, p api.Press, l []api.Draw) int {
	t.Helper()
	_, cost, e := Plan(p, l)
	switch e {
	case api.OK:
		return cost
	case api.ErrNone:
		return 1 << 40
	}
	t.Fatalf("Plan(%v, %v): error %d", p, l, e)
	return 0
}

// P4.6: with one draw less at the end, or with one die more at the end of the list, the best plan costs no more.
func TestNoDearerPlan(t *testing.T) {
	r := rand.New(rand.NewSource(8))
	less := map[string]int{}
	for range tries {
		p := anyPress(r, 2+r.Intn(api.MaxDies-1))
		l, _ := anyDraws(r, p, 1+r.Intn(api.MaxDraws))
		fewer := p
		fewer.Dies = p.Dies[:len(p.Dies)-1]
		cost, ofFewer, ofShorter := costOf(t, p, l), costOf(t, fewer, l), costOf(t, p, l[:len(l)-1])
		if ofFewer < cost || ofShorter > cost {
			t.Errorf("Plan(%v, %v) costs %d, with a die less %d, with a draw less %d", p, l, cost, ofFewer, ofShorter)
		}
		if ofFewer > cost {
			less["die"]++
		}
		if ofShorter < cost {
			less["draw"]++
		}
	}
	if less["die"] < tries/20 || less["draw"] < tries/20 {
		t.Errorf("only one kind of result is tested: %v", less)
	}
}
