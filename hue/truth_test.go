package hue

import (
	"math"
	"math/rand"
	"slices"
	"testing"

	"pencilworks/api"
)

// tries is how often a property is tried.
const tries = 1000

// anySpan returns a span of at most so many numbers, none of which is greater than most.
func anySpan(r *rand.Rand, many, most int) api.Span {
	lo := r.Intn(most + 1)
	return span(lo, min(most, lo+r.Intn(many)))
}

// anyMill returns a mill whose spans have at most so many numbers.
func anyMill(r *rand.Rand, many int) api.Mill {
	return millOf(anySpan(r, many, 5), anySpan(r, many, 12), r.Intn(8))
}

// anyHues returns so many colours, whose spans have at most as many numbers as are asked for.
func anyHues(r *rand.Rand, colours, many int) (l []api.Hue) {
	for range colours {
		l = append(l, api.Hue{Depth: anySpan(r, many, 25), Hide: anySpan(r, many, 25)})
	}
	return l
}

// anyPlan returns a plan of at most so many turns.
func anyPlan(r *rand.Rand, colours, turns int) (l []api.Turn) {
	for range r.Intn(turns + 1) {
		l = append(l, api.Turn{Hue: r.Intn(colours), Washes: r.Intn(api.MaxWashes + 1)})
	}
	return l
}

// facts is what is true: how deep each colour is, and what each run and each wash takes away.
type facts struct {
	depths    []int
	run, wash int
}

// allFacts returns all that can be true.
func allFacts(m api.Mill, l []api.Hue) (all []facts) {
	depths := [][]int{nil}
	for _, h := range l {
		var longer [][]int
		for _, d := range depths {
			for depth := h.Depth.Lo; depth <= h.Depth.Hi; depth++ {
				longer = append(longer, append(slices.Clone(d), depth))
			}
		}
		depths = longer
	}
	for _, d := range depths {
		for run := m.Run.Lo; run <= m.Run.Hi; run++ {
			for wash := m.Wash.Lo; wash <= m.Wash.Hi; wash++ {
				all = append(all, facts{d, run, wash})
			}
		}
	}
	return all
}

// worst returns what is true when stains are deepest.
func worst(m api.Mill, l []api.Hue) facts {
	f := facts{run: m.Run.Lo, wash: m.Wash.Lo}
	for _, h := range l {
		f.depths = append(f.depths, h.Depth.Hi)
	}
	return f
}

// ground runs a plan, turn by turn and wash by wash, and returns for each turn what is then left of each earlier one.
func (f facts) ground(plan []api.Turn) (all [][]int) {
	var mill []int
	fade := func(by int) {
		for i := range mill {
			mill[i] -= by
		}
	}
	for _, t := range plan {
		for range t.Washes {
			fade(f.wash)
		}
		all = append(all, slices.Clone(mill))
		fade(f.run)
		mill = append(mill, f.depths[t.Hue])
	}
	return all
}

// deepestOf returns the greatest one of 0 and some stains.
func deepestOf(stains []int) int { return max(0, slices.Max(append(slices.Clone(stains), 0))) }

// P8.1, P8.6, P3: the stain in each turn is within its span in all truths, and both ends are reached.
func TestStainsInAllTruths(t *testing.T) {
	r := rand.New(rand.NewSource(1))
	seen := map[string]int{}
	for range tries {
		m, l := anyMill(r, 3), anyHues(r, 1+r.Intn(3), 3)
		p := anyPlan(r, len(l), 6)
		want := slices.Repeat(spans(math.MaxInt, 0), len(p))
		for _, f := range allFacts(m, l) {
			for turn, stains := range f.ground(p) {
				deep := deepestOf(stains)
				want[turn] = span(min(want[turn].Lo, deep), max(want[turn].Hi, deep))
			}
		}
		all, e := Stains(m, l, p)
		if !slices.Equal(all, want) || e != api.OK {
			t.Errorf("Stains(%v, %v, %v) = %v, error %d, not %v", m, l, p, all, e, want)
		}
		for _, s := range want {
			switch {
			case s.Hi == 0:
				seen["none"]++
			case s.Lo == 0:
				seen["perhaps"]++
			case s.Lo < s.Hi:
				seen["surely"]++
			default:
				seen["exactly"]++
			}
		}
	}
	if len(seen) < 4 || min(seen["none"], seen["perhaps"], seen["surely"], seen["exactly"]) < tries/20 {
		t.Errorf("only some kinds of stains are tested: %v", seen)
	}
}

// P8.2: a stain could show if it does in some truth, whatever is hidden in it.
func TestShowsInAllTruths(t *testing.T) {
	r := rand.New(rand.NewSource(2))
	seen := map[[2]int]int{}
	for range tries {
		m, l := anyMill(r, 3), anyHues(r, 1+r.Intn(3), 3)
		for i := range l {
			if hi := l[i].Depth.Hi; r.Intn(3) > 0 {
				l[i].Hide = span(max(0, hi-r.Intn(5)), hi+2)
			}
		}
		p := anyPlan(r, len(l), 6)
		could := map[[2]int]bool{}
		for _, f := range allFacts(m, l) {
			for turn, stains := range f.ground(p) {
				hide := l[p[turn].Hue].Hide
				for by, stain := range stains {
					for hides := hide.Lo; hides <= hide.Hi; hides++ {
						if stain > hides {
							could[[2]int{turn, by}] = true
						}
					}
				}
			}
		}
		first, want := [2]int{}, api.ErrNone
		for is := range could {
			if want == api.ErrNone || is[0] < first[0] || is[0] == first[0] && is[1] < first[1] {
				first, want = is, api.OK
			}
		}
		if turn, by, e := Shows(m, l, p); turn != first[0] || by != first[1] || e != want {
			t.Errorf("Shows(%v, %v, %v) = %d, %d, error %d, not %v, error %d", m, l, p, turn, by, e, first, want)
		}
		seen[first]++
	}
	for _, is := range [][2]int{{0, 0}, {1, 0}, {2, 0}, {2, 1}, {3, 2}} {
		if seen[is] < tries/100 {
			t.Errorf("only some kinds of plans are tested: %v", seen)
		}
	}
}

// isClean tells whether a stain shows in no truth after so many washes.
func isClean(m api.Mill, first, second api.Hue, washes int) bool {
	for depth := first.Depth.Lo; depth <= first.Depth.Hi; depth++ {
		for wash := m.Wash.Lo; wash <= m.Wash.Hi; wash++ {
			for hides := second.Hide.Lo; hides <= second.Hide.Hi; hides++ {
				if depth-washes*wash > hides {
					return false
				}
			}
		}
	}
	return true
}

// P8.3: washes are enough if no stain shows after them in any truth, and no fewer ones are.
func TestAllWashes(t *testing.T) {
	r := rand.New(rand.NewSource(3))
	seen := map[int]int{}
	for range tries {
		m, l := anyMill(r, 4), anyHues(r, 3, 4)
		if r.Intn(2) == 0 {
			m.Wash = anySpan(r, 4, 3)
		}
		first, second := r.Intn(3), r.Intn(3)
		// No stain is deeper than 25, so that 25 washes are enough, if any are.
		n, want := 0, api.OK
		for !isClean(m, l[first], l[second], n) && want == api.OK {
			n++
			if n > 25 {
				n, want = 0, api.ErrNone
			}
		}
		if got, e := Wash(m, l, first, second); got != n || e != want {
			t.Errorf("Wash(%v, %v, %d, %d) = %d, error %d, not %d, error %d", m, l, first, second, got, e, n, want)
		}
		if want == api.ErrNone {
			n = -1
		}
		seen[n]++
	}
	if len(seen) < 10 || min(seen[-1], seen[0], seen[1], seen[2], seen[3]) < tries/50 {
		t.Errorf("only some kinds of washes are tested: %v", seen)
	}
}

// costOf returns what a plan costs, and whether no stain could show in it.
func costOf(m api.Mill, l []api.Hue, f facts, plan []api.Turn) (cost int, ok bool) {
	for turn, stains := range f.ground(plan) {
		deep := deepestOf(stains)
		if deep > l[plan[turn].Hue].Hide.Lo {
			return 0, false
		}
		cost += plan[turn].Washes*m.Price + deep
	}
	return cost, true
}

// tried is what was found when all plans in which each colour comes once were tried.
type tried struct {
	plan         []api.Turn
	cost, equal  int
	whole, other int
}

// tryAll tries all plans in which each colour comes once, in the order of their turns.
func tryAll(m api.Mill, l []api.Hue) (found tried) {
	f := worst(m, l)
	var grow func(plan []api.Turn)
	grow = func(plan []api.Turn) {
		if len(plan) == len(l) {
			cost, ok := costOf(m, l, f, plan)
			switch {
			case !ok:
				found.other++
				return
			case found.whole == 0 || cost < found.cost:
				found.plan, found.cost, found.equal = slices.Clone(plan), cost, 0
			case cost == found.cost:
				found.equal++
			}
			found.whole++
			return
		}
		for h := range l {
			if slices.ContainsFunc(plan, func(t api.Turn) bool { return t.Hue == h }) {
				continue
			}
			for washes := range api.MaxWashes + 1 {
				grow(append(plan, api.Turn{Hue: h, Washes: washes}))
			}
		}
	}
	grow(nil)
	return found
}

// expectBest checks the best plan against all plans.
func expectBest(t *testing.T, m api.Mill, l []api.Hue) tried {
	t.Helper()
	found := tryAll(m, l)
	want := api.OK
	if found.whole == 0 {
		want = api.ErrNone
	}
	if p, n, e := Best(m, l); !slices.Equal(p, found.plan) || n != found.cost || e != want {
		t.Errorf("Best(%v, %v) = %v, %d, error %d, not %v, %d, error %d", m, l, p, n, e, found.plan, found.cost, want)
	}
	return found
}

// P8.4, P8.6: of all plans, no whole one costs less, and none that costs as much comes first.
func TestBestOfAllPlans(t *testing.T) {
	r := rand.New(rand.NewSource(4))
	none, few, equal, isWashed := 0, 0, 0, 0
	for range tries {
		m, l := anyMill(r, 4), anyHues(r, 1+r.Intn(4), 4)
		found := expectBest(t, m, l)
		switch {
		case found.whole == 0:
			none++
		case found.whole < 20:
			few++
		}
		if found.equal > 0 {
			equal++
		}
		if slices.ContainsFunc(found.plan, func(t api.Turn) bool { return t.Washes > 0 }) {
			isWashed++
		}
	}
	if min(none, few, equal, isWashed) < tries/20 {
		t.Errorf("only some kinds of colours are tested: %d without a plan, %d with few, %d with several best ones, %d washed", none, few, equal, isWashed)
	}
}

// P8.4, P8.6: the same with more colours, up to as many as there can be.
func TestBestOfMostPlans(t *testing.T) {
	r := rand.New(rand.NewSource(5))
	whole := 0
	for i := range 30 {
		m, l := anyMill(r, 3), anyHues(r, api.MaxHues-min(1, i%6), 3)
		for i := range l {
			l[i].Hide.Hi += 8
			l[i].Hide.Lo += r.Intn(8)
		}
		if expectBest(t, m, l).whole > 0 {
			whole++
		}
	}
	if whole < 15 {
		t.Errorf("only %d of the lists of colours have a whole plan", whole)
	}
}

// P8.4, P8.6: the best plan is whole, so that in all truths no stain shows in it, and costs what is returned.
func TestBestIsWhole(t *testing.T) {
	r := rand.New(rand.NewSource(6))
	for plans := 0; plans < tries/4; {
		m, l := anyMill(r, 3), anyHues(r, 1+r.Intn(4), 3)
		p, cost, e := Best(m, l)
		if e != api.OK {
			continue
		}
		plans++
		times := make([]int, len(l))
		all, _ := Stains(m, l, p)
		for turn, s := range all {
			times[p[turn].Hue]++
			cost -= p[turn].Washes*m.Price + s.Hi
		}
		if cost != 0 || slices.Min(times) != 1 || slices.Max(times) != 1 {
			t.Errorf("Best(%v, %v) = %v, which costs %d less, and has the colours %v times", m, l, p, cost, times)
		}
		if _, _, e := Shows(m, l, p); e != api.ErrNone {
			t.Errorf("Best(%v, %v) = %v, in which a stain could show: error %d", m, l, p, e)
		}
		for _, f := range allFacts(m, l) {
			for turn, stains := range f.ground(p) {
				if deepestOf(stains) > l[p[turn].Hue].Hide.Lo {
					t.Fatalf("Best(%v, %v) = %v, in which %v show in the turn %d", m, l, p, stains, turn)
				}
			}
		}
	}
}

// narrower returns a span within another one.
func narrower(r *rand.Rand, s api.Span) api.Span {
	lo := s.Lo + r.Intn(s.Hi-s.Lo+1)
	return span(lo, lo+r.Intn(s.Hi-lo+1))
}

// P8.6: with narrower spans of the mill and of depths, no span is wider, and each is within the one before.
func TestNarrower(t *testing.T) {
	r := rand.New(rand.NewSource(7))
	changed := 0
	for range tries {
		m, l := anyMill(r, 6), anyHues(r, 1+r.Intn(6), 8)
		p := anyPlan(r, len(l), api.MaxTurns)
		before, _ := Stains(m, l, p)
		m.Run, m.Wash = narrower(r, m.Run), narrower(r, m.Wash)
		for i := range l {
			l[i].Depth = narrower(r, l[i].Depth)
		}
		after, _ := Stains(m, l, p)
		for turn := range p {
			if after[turn].Lo < before[turn].Lo || after[turn].Hi > before[turn].Hi {
				t.Errorf("Stains(%v, %v, %v) = %v, but %v with wider spans", m, l, p, after, before)
			}
		}
		if !slices.Equal(before, after) {
			changed++
		}
	}
	if changed < tries/2 {
		t.Errorf("only %d changes are tested", changed)
	}
}

// P8.6: with one wash more before a turn no stain is deeper, and none before it changes.
func TestMoreWashes(t *testing.T) {
	r := rand.New(rand.NewSource(8))
	changed := 0
	for range tries {
		m, l := anyMill(r, 6), anyHues(r, 1+r.Intn(6), 8)
		p := append(anyPlan(r, len(l), api.MaxTurns-1), api.Turn{})
		before, _ := Stains(m, l, p)
		more := r.Intn(len(p))
		p[more].Washes = min(p[more].Washes+1, api.MaxWashes)
		after, _ := Stains(m, l, p)
		for turn := range p {
			if after[turn].Lo > before[turn].Lo || after[turn].Hi > before[turn].Hi {
				t.Errorf("Stains(%v, %v, %v) = %v, but %v with fewer washes before the turn %d", m, l, p, after, before, more)
			}
		}
		if !slices.Equal(before[:more], after[:more]) {
			t.Errorf("Stains(%v, %v, %v) = %v, but %v with fewer washes before the turn %d", m, l, p, after, before, more)
		}
		if !slices.Equal(before, after) {
			changed++
		}
	}
	if changed < tries/5 {
		t.Errorf("only %d changes are tested", changed)
	}
}

// P8.6: a turn that is left out at the end changes no stain before it.
func TestShorterPlans(t *testing.T) {
	r := rand.New(rand.NewSource(9))
	for range tries {
		m, l := anyMill(r, 6), anyHues(r, 1+r.Intn(6), 8)
		p := append(anyPlan(r, len(l), api.MaxTurns-1), api.Turn{Washes: r.Intn(api.MaxWashes + 1)})
		before, _ := Stains(m, l, p)
		after, e := Stains(m, l, p[:len(p)-1])
		if !slices.Equal(after, before[:len(p)-1]) || e != api.OK {
			t.Errorf("Stains(%v, %v, %v) = %v, but without the last turn %v, error %d", m, l, p, before, after, e)
		}
	}
}

// P8.6, P11: in whichever order the colours are listed, the least cost is the same, and so are the stains of the same plan.
func TestOtherOrders(t *testing.T) {
	r := rand.New(rand.NewSource(10))
	whole := 0
	for range tries {
		m, l := anyMill(r, 6), anyHues(r, 1+r.Intn(5), 8)
		p := anyPlan(r, len(l), api.MaxTurns)
		other, moved := make([]api.Hue, len(l)), slices.Clone(p)
		to := r.Perm(len(l))
		for i, h := range l {
			other[to[i]] = h
		}
		for i, t := range p {
			moved[i].Hue = to[t.Hue]
		}
		_, before, e := Best(m, l)
		best, after, f := Best(m, other)
		if before != after || e != f {
			t.Errorf("Best(%v, %v) = %v, %d, error %d, but %d, error %d in another order", m, other, best, after, f, before, e)
		}
		if e == api.OK {
			whole++
		}
		stains, _ := Stains(m, l, p)
		if again, _ := Stains(m, other, moved); !slices.Equal(stains, again) {
			t.Errorf("Stains(%v, %v, %v) = %v, but %v in another order", m, other, moved, again, stains)
		}
	}
	if whole < tries/5 {
		t.Errorf("only %d lists of colours have a whole plan", whole)
	}
}

// anyNumber returns a number that is often small, or at an end.
func anyNumber(r *rand.Rand) int {
	odd := []int{math.MinInt, math.MaxInt, -1, api.MaxDepth, api.MaxDepth + 1, api.MaxHues, api.MaxWashes + 1}
	if r.Intn(20) == 0 {
		return odd[r.Intn(len(odd))]
	}
	return r.Intn(3)
}

// P1: no argument makes a function panic, or go on for ever; what is not valid has an error.
func TestAnyArguments(t *testing.T) {
	r := rand.New(rand.NewSource(11))
	odd := func() api.Span {
		lo := anyNumber(r)
		return span(lo, max(lo, anyNumber(r)))
	}
	good := 0
	for range 10 * tries {
		m := millOf(odd(), odd(), anyNumber(r))
		var l []api.Hue
		for range r.Intn(8) {
			l = append(l, api.Hue{Depth: odd(), Hide: odd()})
		}
		var p []api.Turn
		for range r.Intn(15) {
			p = append(p, api.Turn{Hue: anyNumber(r), Washes: anyNumber(r)})
		}
		_, e := Stains(m, l, p)
		_, _, f := Shows(m, l, p)
		_, g := Wash(m, l, anyNumber(r), anyNumber(r))
		_, _, h := Best(m, l)
		if isWrong := e == api.ErrArg; isWrong != (f == api.ErrArg) || isWrong != (g == api.ErrArg) || isWrong != (h == api.ErrArg) {
			t.Errorf("%v and %v are valid for some functions: errors %d, %d, %d, %d", m, l, e, f, g, h)
		}
		if (e == api.ErrRange) != (f == api.ErrRange) {
			t.Errorf("%v is a plan for some functions: errors %d, %d", p, e, f)
		}
		if e != api.ErrArg {
			good++
		}
	}
	if good < tries {
		t.Errorf("only %d mills are valid", good)
	}
}
