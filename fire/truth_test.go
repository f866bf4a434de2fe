package fire

import (
	"math/rand"
	"slices"
	"testing"

	"pencilworks/api"
	"pencilworks/bound"
)

// tries is how often a property is tried.
const tries = 1500

// truth is what may be true of a place, and of the heat of each hour. All are counted in parts of which there are many to one; so is the heat of leads, in thousandths of the squares of such parts.
type truth struct {
	many      int
	gain, off int
	heats     []int
}

// leads returns the heat of leads in an hour; asMuch returns so much of it.
func (u truth) leads(hour int) int { return u.gain*u.heats[hour] + u.off*u.many*1000 }

func (u truth) asMuch(heat int) int { return heat * u.many * u.many * 1000 }

// broken returns the rules that are broken in a truth, with all hours in which they are, as the chapter says it.
func (u truth) broken(f api.Fire) []breach {
	var all []breach
	note := func(rule, hour int, isBroken bool) {
		if isBroken {
			all = append(all, breach{rule, hour})
		}
	}
	last := len(u.heats) - 1
	note(api.RuleBegin, 0, u.leads(0) > u.asMuch(f.Cool))
	note(api.RuleEnd, last, u.leads(last) > u.asMuch(f.Cool))
	for i := range u.heats {
		note(api.RuleTop, i, u.leads(i) > u.asMuch(f.Top))
		if i > 0 {
			note(api.RuleRise, i, u.leads(i)-u.leads(i-1) > u.asMuch(f.Rise))
			note(api.RuleFall, i, u.leads(i-1)-u.leads(i) > u.asMuch(f.Fall))
		}
	}
	note(api.RuleHold, 0, !u.isHeld(f))
	return all
}

func (u truth) isHeld(f api.Fire) bool {
	for first := 0; first+f.Hold <= len(u.heats); first++ {
		isHeld := true
		for i := first; i < first+f.Hold; i++ {
			isHeld = isHeld && u.leads(i) >= u.asMuch(f.Soak)
		}
		if isHeld {
			return true
		}
	}
	return false
}

// heatOf returns what the kiln may have when something is set.
func heatOf(k api.Kiln, set int) api.Span { return span(max(0, set-k.Err), set+k.Err) }

// outermost calls a function with each truth of a place in which each number is at an end.
func outermost(k api.Kiln, p api.Place, program []int, see func(u truth)) {
	for corner := range 1 << (len(program) + 2) {
		end := func(bit int, s api.Span) int {
			if corner>>bit&1 == 1 {
				return s.Hi
			}
			return s.Lo
		}
		u := truth{many: 1, gain: end(0, p.Gain), off: end(1, p.Off)}
		for i, set := range program {
			u.heats = append(u.heats, end(i+2, heatOf(k, set)))
		}
		see(u)
	}
}

// anyTruth returns a truth of a place, in parts.
func anyTruth(r *rand.Rand, k api.Kiln, p api.Place, program []int) truth {
	const many = 10
	from := func(s api.Span) int {
		switch r.Intn(4) {
		case 0:
			return s.Lo * many
		case 1:
			return s.Hi * many
		}
		return s.Lo*many + r.Intn((s.Hi-s.Lo)*many+1)
	}
	u := truth{many: many, gain: from(p.Gain), off: from(p.Off)}
	for _, set := range program {
		u.heats = append(u.heats, from(heatOf(k, set)))
	}
	return u
}

// around returns a span of some width between two bounds.
func around(r *rand.Rand, wide, least, most int) api.Span {
	lo := least + r.Intn(most-least+1)
	return span(lo, min(most, lo+r.Intn(wide+1)))
}

func anyKiln(r *rand.Rand, places int) api.Kiln {
	k := api.Kiln{Err: []int{0, 1, 10, 30, api.MaxErr}[r.Intn(5)], Ramp: 1 + r.Intn(api.MaxHeat), Step: api.MinStep + r.Intn(400)}
	wide := []int{0, 20, 200}[r.Intn(3)]
	for range places {
		k.Places = append(k.Places, place(around(r, wide, 800, 1200), around(r, wide/4, -50, 50)))
	}
	return k
}

func anyFire(r *rand.Rand) api.Fire {
	f := api.Fire{Cool: r.Intn(700), Hold: 1 + r.Intn(3), Rise: 100 + r.Intn(1200), Fall: 100 + r.Intn(1200)}
	f.Soak = f.Cool + r.Intn(900)
	f.Top = f.Soak + r.Intn(900)
	return f
}

// anyPlaces returns some of the places of a kiln, at least one.
func anyPlaces(r *rand.Rand, k api.Kiln) []int {
	l := r.Perm(len(k.Places))[:1+r.Intn(len(k.Places))]
	slices.Sort(l)
	return l
}

// anyProgram returns a short program, which often is nearly good for all places.
func anyProgram(r *rand.Rand, k api.Kiln, f api.Fire) []int {
	good, e := Plan(k, f, anyPlaces(r, k))
	if e != api.OK || len(good) > 6 || r.Intn(8) == 0 {
		var l []int
		for range 1 + r.Intn(6) {
			l = append(l, r.Intn(1200))
		}
		return l
	}
	if r.Intn(3) > 0 {
		i := min(r.Intn(len(good)+2), len(good)-1) // often the last hour
		good[i] = min(api.MaxHeat, max(0, good[i]+r.Intn(301)-150))
	}
	return good
}

// P3.1 to P3.3, P3.6: of all truths, those at the ends show the span of the heat, which places are forbidden, and the first rule that can be broken there, with its hour.
func TestWhyIsWhatCanBe(t *testing.T) {
	r := rand.New(rand.NewSource(1))
	seen := map[int]int{}
	for range tries {
		k, f := anyKiln(r, 1+r.Intn(2)), anyFire(r)
		if r.Intn(2) == 0 {
			k, f = coarse(r)
		}
		l := anyProgram(r, k, f)
		var forbidden []int
		for i, p := range k.Places {
			var first breach
			least, most := 1<<62, -1<<62
			outermost(k, p, l, func(u truth) {
				least, most = min(least, u.leads(0)), max(most, u.leads(0))
				for _, b := range u.broken(f) {
					if first == (breach{}) || b.rule < first.rule || b.rule == first.rule && b.hour < first.hour {
						first = b
					}
				}
			})
			if got, e := Heat(k, i, l[0]); got != span(bound.Down(least, 1000), bound.Up(most, 1000)) || e != api.OK {
				t.Errorf("Heat(%v, %d, %d) = %v, error %d, but from %d to %d thousandths", k, i, l[0], got, e, least, most)
			}
			want := api.ErrNone
			if first != (breach{}) {
				want = api.OK
				forbidden = append(forbidden, i)
			}
			if rule, hour, e := Why(k, f, l, i); rule != first.rule || hour != first.hour || e != want {
				t.Errorf("Why(%v, %v, %v, %d) = %d, %d, error %d, not %v", k, f, l, i, rule, hour, e, first)
			}
			seen[first.rule]++
		}
		if got, e := Check(k, f, l); !slices.Equal(got, forbidden) || e != api.OK {
			t.Errorf("Check(%v, %v, %v) = %v, error %d, not %v", k, f, l, got, e, forbidden)
		}
	}
	for rule := range api.RuleEnd + 1 {
		if seen[rule] < tries/40 {
			t.Errorf("only some kinds of results are tested: the rule %d is broken %d times", rule, seen[rule])
		}
	}
}

// P3.6, P3: whatever is true, the heat is within its span, and leads keep all rules that Why says are surely kept.
func TestAnyTruthIsWithin(t *testing.T) {
	r := rand.New(rand.NewSource(2))
	kept := 0
	for range tries {
		k, f := anyKiln(r, 1), anyFire(r)
		l := anyProgram(r, k, f)
		rule, hour, e := Why(k, f, l, 0)
		for range 20 {
			u := anyTruth(r, k, k.Places[0], l)
			for i, set := range l {
				if s, e := Heat(k, 0, set); e != api.OK || u.leads(i) < u.asMuch(s.Lo) || u.leads(i) > u.asMuch(s.Hi) {
					t.Errorf("Heat(%v, 0, %d) = %v, error %d, but %v", k, set, s, e, u)
				}
			}
			for _, b := range u.broken(f) {
				if e != api.OK || b.rule < rule || b.rule == rule && b.hour < hour {
					t.Errorf("Why(%v, %v, %v, 0) = %d, %d, error %d, but %v is broken by %v", k, f, l, rule, hour, e, b, u)
				}
			}
		}
		if e == api.ErrNone {
			kept++
		}
	}
	if kept < tries/20 || kept > tries*19/20 {
		t.Errorf("only one kind of result is tested: %d of %d keep all rules", kept, tries)
	}
}

// isBaked tells whether a program may be planned, by what Check says.
func isBaked(t *testing.T, k api.Kiln, f api.Fire, places, l []int) bool {
	t.Helper()
	for i, set := range l {
		if set%k.Step != 0 || i > 0 && (set-l[i-1] > k.Ramp || l[i-1]-set > k.Ramp) {
			return false
		}
	}
	forbidden, e := Check(k, f, l)
	if e != api.OK {
		t.Fatalf("Check(%v, %v, %v): error %d", k, f, l, e)
	}
	return !slices.ContainsFunc(places, func(p int) bool { return slices.Contains(forbidden, p) })
}

// firstOf returns the first program of a length in lexicographic order that may be planned, tried one by one.
func firstOf(t *testing.T, k api.Kiln, f api.Fire, places []int, length int) []int {
	var grow func(l []int) []int
	grow = func(l []int) []int {
		if len(l) == length {
			if isBaked(t, k, f, places, l) {
				return l
			}
			return nil
		}
		for set := 0; set <= api.MaxHeat; set += k.Step {
			if longer := grow(append(slices.Clone(l), set)); longer != nil {
				return longer
			}
		}
		return nil
	}
	return grow(nil)
}

// coarse returns a kiln of few steps, and a fire that often takes few hours.
func coarse(r *rand.Rand) (api.Kiln, api.Fire) {
	k := anyKiln(r, 1+r.Intn(3))
	k.Step = 350 + r.Intn(300)
	k.Ramp = k.Step + r.Intn(2*k.Step)
	f := anyFire(r)
	f.Cool += 100
	f.Soak = f.Cool + r.Intn(700)
	f.Top = f.Soak + k.Step/2 + r.Intn(1000)
	f.Rise, f.Fall = f.Rise+300, f.Fall+300
	if r.Intn(4) == 0 { // so that leads may be cool and held at once
		k.Err, k.Places = 0, exact().Places
		f.Cool, f.Soak = k.Step, k.Step
	}
	return k, f
}

// P3.4, P3.7: no shorter program may be planned, and none of those that are as short comes first.
func TestNoShorterProgram(t *testing.T) {
	const longest = 5
	r := rand.New(rand.NewSource(3))
	lengths := map[int]int{}
	for range 120 {
		k, f := coarse(r)
		places := anyPlaces(r, k)
		var want []int
		for length := 1; length <= longest && want == nil; length++ {
			want = firstOf(t, k, f, places, length)
		}
		lengths[len(want)]++
		got, e := Plan(k, f, places)
		switch {
		case want != nil && (!slices.Equal(got, want) || e != api.OK):
			t.Errorf("Plan(%v, %v, %v) = %v, error %d, not %v", k, f, places, got, e, want)
		case want == nil && e == api.OK && len(got) <= longest:
			t.Errorf("Plan(%v, %v, %v) = %v, but there is none as short", k, f, places, got)
		}
	}
	for _, n := range []int{0, 1, 3, 4, 5} {
		if lengths[n] < 4 {
			t.Errorf("only some kinds of results are tested: %v", lengths)
		}
	}
}

// stage is what has come of the hours so far: what is set, and for how many hours each place has been held.
type stage struct {
	set  int
	held [api.MaxPlaces]int
}

// course is a stage, and how many hours are still to come.
type course struct {
	at    stage
	hours int
}

// chart finds programs backward: it knows from which stages all rules can still be kept.
type chart struct {
	k      api.Kiln
	f      api.Fire
	places []int
	known  map[course]bool
}

// may tells whether something can be set after a stage, if there is one, and returns the next one.
func (c chart) may(at stage, set int, isFirst bool) (stage, bool) {
	next := stage{set: set}
	heat := heatOf(c.k, set)
	for i, n := range c.places {
		p := c.k.Places[n]
		hottest := p.Gain.Hi*heat.Hi + 1000*p.Off.Hi
		if hottest > 1000*c.f.Top || isFirst && hottest > 1000*c.f.Cool {
			return next, false
		}
		if !isFirst {
			before := heatOf(c.k, at.set)
			if set-at.set > c.k.Ramp || at.set-set > c.k.Ramp || p.Gain.Hi*(heat.Hi-before.Lo) > 1000*c.f.Rise || p.Gain.Hi*(before.Hi-heat.Lo) > 1000*c.f.Fall {
				return next, false
			}
		}
		if at.held[i] == c.f.Hold {
			next.held[i] = c.f.Hold
		} else if p.Gain.Lo*heat.Lo+1000*p.Off.Lo >= 1000*c.f.Soak {
			next.held[i] = at.held[i] + 1
		}
	}
	return next, true
}

// ends tells whether all rules are kept if no hours are to come.
func (c chart) ends(at stage) bool {
	for i, n := range c.places {
		p := c.k.Places[n]
		if at.held[i] < c.f.Hold || p.Gain.Hi*heatOf(c.k, at.set).Hi+1000*p.Off.Hi > 1000*c.f.Cool {
			return false
		}
	}
	return true
}

// can tells whether all rules can be kept with just so many more hours.
func (c chart) can(at stage, hours int) bool {
	if hours == 0 {
		return c.ends(at)
	}
	if is, ok := c.known[course{at, hours}]; ok {
		return is
	}
	is := false
	for set := 0; set <= api.MaxHeat && !is; set += c.k.Step {
		next, ok := c.may(at, set, false)
		is = ok && c.can(next, hours-1)
	}
	c.known[course{at, hours}] = is
	return is
}

// first returns the first of the shortest programs, or none.
func (c chart) first() []int {
	for length := 1; length <= api.MaxProgram; length++ {
		var l []int
		var at stage
		for set := 0; set <= api.MaxHeat && len(l) < length; set += c.k.Step {
			if next, ok := c.may(at, set, len(l) == 0); ok && c.can(next, length-len(l)-1) {
				l, at = append(l, set), next
				set = -c.k.Step // the next hour's begin anew
			}
		}
		if len(l) == length {
			return l
		}
	}
	return nil
}

// planKiln returns a kiln and a fire of which there often is a plan of some length.
func planKiln(r *rand.Rand) (api.Kiln, api.Fire) {
	k := anyKiln(r, 1+r.Intn(4))
	k.Step = api.MinStep + r.Intn(100)
	k.Ramp = k.Step + r.Intn(400)
	f := anyFire(r)
	f.Hold = 1 + r.Intn(api.MaxHold)
	f.Cool = 50 + r.Intn(200)
	f.Soak = f.Cool + r.Intn(700)
	f.Top = f.Soak + 100 + r.Intn(700)
	f.Rise, f.Fall = 100+r.Intn(400), 100+r.Intn(400)
	return k, f
}

// P3.4, P3.7: what is planned is what is found backward, with each place held on its own; there is none just if there is none of forty hours.
func TestPlanIsFoundBackward(t *testing.T) {
	r := rand.New(rand.NewSource(4))
	none, long := 0, 0
	for range 500 {
		k, f := planKiln(r)
		places := anyPlaces(r, k)
		want := chart{k, f, places, map[course]bool{}}.first()
		got, e := Plan(k, f, places)
		if want == nil {
			none++
			if e != api.ErrNone || len(got) > 0 {
				t.Errorf("Plan(%v, %v, %v) = %v, error %d", k, f, places, got, e)
			}
			continue
		}
		if !slices.Equal(got, want) || e != api.OK {
			t.Errorf("Plan(%v, %v, %v) = %v, error %d, not %v", k, f, places, got, e, want)
		}
		if !isBaked(t, k, f, places, got) {
			t.Errorf("Plan(%v, %v, %v) = %v, which does not bake", k, f, places, got)
		}
		if len(want) > 20 {
			long++
		}
	}
	if none < 50 || none > 450 || long < 20 {
		t.Errorf("only one kind of result is tested: %d have no plan, %d have a long one", none, long)
	}
}

// hoursOf returns how long a plan is, and more than any length if there is none.
func hoursOf(t *testing.T, k api.Kiln, f api.Fire, places []int) int {
	t.Helper()
	l, e := Plan(k, f, places)
	switch e {
	case api.OK:
		return len(l)
	case api.ErrNone:
		return api.MaxProgram + 1
	}
	t.Fatalf("Plan(%v, %v, %v): error %d", k, f, places, e)
	return 0
}

// P3.7: with fewer places, a lesser Err, or a greater Ramp, Top, Rise or Fall no program is longer.
func TestNoLongerProgram(t *testing.T) {
	r := rand.New(rand.NewSource(5))
	shorter := map[int]int{}
	for range tries {
		k, f := planKiln(r)
		places := anyPlaces(r, k)
		n := hoursOf(t, k, f, places)
		easier, milder, fewer := k, f, places
		change := r.Intn(6)
		switch change {
		case 0:
			fewer = places[:1+r.Intn(len(places))]
		case 1:
			easier.Err = r.Intn(k.Err + 1)
		case 2:
			easier.Ramp += r.Intn(api.MaxHeat - k.Ramp + 1)
		case 3:
			milder.Top += r.Intn(500)
		case 4:
			milder.Rise += r.Intn(500)
		case 5:
			milder.Fall += r.Intn(500)
		}
		got := hoursOf(t, easier, milder, fewer)
		if got > n {
			t.Errorf("%v, %v, %v: %d hours, but %d of %v, %v, %v", k, f, places, n, got, easier, milder, fewer)
		}
		if got < n {
			shorter[change]++
		}
	}
	if len(shorter) < 6 {
		t.Errorf("only some kinds of changes are tested: %v", shorter)
	}
}

// standKiln returns a kiln, and fires that are each for some of its places.
func standKiln(r *rand.Rand, places, fires int) (api.Kiln, []api.Fire) {
	k := api.Kiln{Err: r.Intn(20), Ramp: 300, Step: 100}
	for range places {
		gain := api.MinGain + 10 + r.Intn(api.MaxGain-api.MinGain-20)
		k.Places = append(k.Places, place(span(gain-r.Intn(10), gain+r.Intn(10)), around(r, 20, -20, 20)))
	}
	var l []api.Fire
	for range fires {
		soak := 300 + r.Intn(1000)
		f := between(soak, soak+r.Intn(700))
		f.Rise = 250 + r.Intn(500)
		l = append(l, f)
	}
	return k, l
}

// standAt returns for each fire at which places its leads are surely baked.
func standAt(t *testing.T, k api.Kiln, l []api.Fire) [][]bool {
	t.Helper()
	var may [][]bool
	for _, f := range l {
		forbidden, e := Check(k, f, program())
		if e != api.OK {
			t.Fatalf("Check(%v, %v): error %d", k, f, e)
		}
		row := make([]bool, len(k.Places))
		for i := range row {
			row[i] = !slices.Contains(forbidden, i)
		}
		may = append(may, row)
	}
	return may
}

// standing returns how many stand, or false if any of them stands where it may not.
func standing(may [][]bool, l []int) (int, bool) {
	n := 0
	for i, p := range l {
		if p == api.NoPlace {
			continue
		}
		if p < 0 || p >= len(may[i]) || !may[i][p] || slices.Contains(l[:i], p) {
			return 0, false
		}
		n++
	}
	return n, true
}

// allLists calls a function with all lists of places, in lexicographic order, where NoPlace is last.
func allLists(batches, places int, see func(l []int)) {
	var grow func(l []int)
	grow = func(l []int) {
		if len(l) == batches {
			see(l)
			return
		}
		for p := range places {
			grow(append(slices.Clone(l), p))
		}
		grow(append(slices.Clone(l), api.NoPlace))
	}
	grow(nil)
}

// P3.5, P3.8: no list lets more batches stand, and none that lets as many comes first.
func TestNoMoreStand(t *testing.T) {
	r := rand.New(rand.NewSource(6))
	left := 0
	for range tries / 5 {
		k, fires := standKiln(r, 1+r.Intn(4), 1+r.Intn(4))
		may := standAt(t, k, fires)
		var best []int
		most := -1
		allLists(len(fires), len(k.Places), func(l []int) {
			if n, ok := standing(may, l); ok && n > most {
				best, most = l, n
			}
		})
		if got, e := Stand(k, fires, program()); !slices.Equal(got, best) || e != api.OK {
			t.Errorf("Stand(%v, %v) = %v, error %d, not %v", k, fires, got, e, best)
		}
		if 0 < most && most < min(len(fires), len(k.Places)) {
			left++
		}
	}
	if left < tries/50 {
		t.Errorf("only one kind of result is tested: of %d some are left, and some are not", left)
	}
}

// matched returns how many batches can stand, found by moving others from place to place.
func matched(may [][]bool, places int) int {
	holder := slices.Repeat([]int{api.NoPlace}, places)
	var seat func(batch int, tried []bool) bool
	seat = func(batch int, tried []bool) bool {
		for p := range places {
			if !may[batch][p] || tried[p] {
				continue
			}
			tried[p] = true
			if holder[p] == api.NoPlace || seat(holder[p], tried) {
				holder[p] = batch
				return true
			}
		}
		return false
	}
	n := 0
	for batch := range may {
		if seat(batch, make([]bool, places)) {
			n++
		}
	}
	return n
}

// P3.8, P11: as many stand as can, no batch that does not could stand at a free place, and the order of batches makes no difference to how many stand.
func TestAsManyAsCanBe(t *testing.T) {
	r := rand.New(rand.NewSource(7))
	for range tries / 5 {
		k, fires := standKiln(r, api.MaxPlaces-r.Intn(3), api.MaxFires-r.Intn(3))
		may := standAt(t, k, fires)
		got, e := Stand(k, fires, program())
		n, ok := standing(may, got)
		if want := matched(may, len(k.Places)); e != api.OK || len(got) != len(fires) || !ok || n != want {
			t.Fatalf("Stand(%v, %v) = %v, error %d, but %d can stand", k, fires, got, e, want)
		}
		for i, p := range got {
			for free := range k.Places {
				if p == api.NoPlace && may[i][free] && !slices.Contains(got, free) {
					t.Errorf("Stand(%v, %v) = %v, but %d could stand at %d", k, fires, got, i, free)
				}
			}
		}
		r.Shuffle(len(fires), func(i, j int) { fires[i], fires[j] = fires[j], fires[i] })
		got, e = Stand(k, fires, program())
		if m, ok := standing(standAt(t, k, fires), got); e != api.OK || !ok || m != n {
			t.Errorf("Stand(%v, %v) = %v, error %d, but %d stand in another order", k, fires, got, e, n)
		}
	}
}
