package coat

import (
	"math"
	"math/rand"
	"slices"
	"testing"

	"pencilworks/api"
)

// tries is how often a property is tried.
const tries = 1000

// anyShop returns a paint shop with at most so many coats, each of which dries for at most so many hours.
func anyShop(r *rand.Rand, coats, dry int) api.Paint {
	p := shopOf(1+r.Intn(6), 1+r.Intn(api.MaxRacks))
	for range 1 + r.Intn(min(coats, api.MaxShop)) {
		p.Batches = append(p.Batches, batch(r.Intn(2*dry)))
		addCoat(r, &p.Batches[len(p.Batches)-1], dry)
	}
	for range r.Intn(coats - len(p.Batches) + 1) {
		addCoat(r, &p.Batches[r.Intn(len(p.Batches))], dry)
	}
	return p
}

// addCoat adds a coat that dries for at most so many hours.
func addCoat(r *rand.Rand, b *api.Coats, dry int) {
	lo := r.Intn(dry)
	b.Dry = append(b.Dry, span(lo, lo+r.Intn(dry-lo+1)))
}

// changed returns a paint shop that shares no batch with another one.
func changed(p api.Paint, change func(p *api.Paint)) api.Paint {
	p.Batches = slices.Clone(p.Batches)
	for i := range p.Batches {
		p.Batches[i].Dry = slices.Clone(p.Batches[i].Dry)
	}
	change(&p)
	return p
}

// anyOrder returns an order in which each batch has all its coats.
func anyOrder(r *rand.Rand, p api.Paint) (l []int) {
	for i, b := range p.Batches {
		l = append(l, slices.Repeat([]int{i}, len(b.Dry))...)
	}
	r.Shuffle(len(l), func(i, k int) { l[i], l[k] = l[k], l[i] })
	return l
}

// coatOf returns which coat of its batch a dip of a plan puts on.
func coatOf(l []api.Dip, i int) int {
	coat := 0
	for _, d := range l[:i] {
		if d.Batch == l[i].Batch {
			coat++
		}
	}
	return coat
}

// lastOf returns the last dip of a batch in a plan, or -1.
func lastOf(l []api.Dip, batch int) int {
	for i := len(l) - 1; i >= 0; i-- {
		if l[i].Batch == batch {
			return i
		}
	}
	return -1
}

// dries returns the hours from which on the coat of a dip could be dry, and surely is.
func dries(p api.Paint, l []api.Dip, i int) api.Span {
	s := p.Batches[l[i].Batch].Dry[coatOf(l, i)]
	return span(l[i].Hour+p.Dip+s.Lo, l[i].Hour+p.Dip+s.Hi)
}

// hanging returns how many batches other than one are in their racks at an hour, by what each dip of a plan did.
func hanging(p api.Paint, l []api.Dip, other, hour int) int {
	is := map[int]bool{}
	for i, d := range l {
		if d.Batch != other && d.Hour+p.Dip <= hour && hour < dries(p, l, i).Hi {
			is[d.Batch] = true
		}
	}
	return len(is)
}

// failed returns the errors of all checks that do not hold of a dip after those of a plan, in their order.
func failed(p api.Paint, l []api.Dip, d api.Dip) (all []api.Errno) {
	if d.Batch < 0 || d.Batch >= len(p.Batches) || d.Hour < 0 || d.Hour > 1<<20 {
		return []api.Errno{api.ErrRange}
	}
	if coatOf(append(slices.Clone(l), d), len(l)) >= len(p.Batches[d.Batch].Dry) {
		return []api.Errno{api.ErrFull}
	}
	if len(l) > 0 && d.Hour < l[len(l)-1].Hour+p.Dip {
		all = append(all, api.ErrOrder)
	}
	if i := lastOf(l, d.Batch); i >= 0 {
		dry := dries(p, l, i)
		if d.Hour < dry.Hi {
			all = append(all, api.ErrState)
		}
		if d.Hour-dry.Lo > p.Batches[d.Batch].Late {
			all = append(all, api.ErrRefuse)
		}
	}
	if hanging(p, l, d.Batch, d.Hour+p.Dip) >= p.Racks {
		all = append(all, api.ErrShort)
	}
	return all
}

// isComplete tells whether each batch of a shop has all its coats.
func isComplete(p api.Paint, l []api.Dip) bool {
	for i, b := range p.Batches {
		dips := 0
		for _, d := range l {
			if d.Batch == i {
				dips++
			}
		}
		if dips < len(b.Dry) {
			return false
		}
	}
	return true
}

// reckoned returns what Check should.
func reckoned(p api.Paint, l []api.Dip) (int, api.Errno) {
	for i, d := range l {
		if wrong := failed(p, l[:i], d); len(wrong) > 0 {
			return i, wrong[0]
		}
	}
	if !isComplete(p, l) {
		return len(l), api.ErrNone
	}
	return len(l), api.OK
}

// reckonedTimes returns the dips of an order at its times, which are found hour by hour, and the error of the first one that has one.
func reckonedTimes(p api.Paint, order []int) (l []api.Dip, e api.Errno) {
	mayStay := func(e api.Errno) bool { return e == api.ErrRange || e == api.ErrFull || e == api.ErrRefuse }
	for _, b := range order {
		d := api.Dip{Batch: b}
		wrong := failed(p, l, d)
		for slices.ContainsFunc(wrong, func(e api.Errno) bool { return !mayStay(e) }) {
			d.Hour++
			wrong = failed(p, l, d)
		}
		if len(wrong) > 0 {
			return l, wrong[0]
		}
		l = append(l, d)
	}
	if !isComplete(p, l) {
		return l, api.ErrNone
	}
	return l, api.OK
}

// anyPlan returns a plan of dips that are about as early as can be; some may not be right.
func anyPlan(r *rand.Rand, p api.Paint) (l []api.Dip) {
	order := anyOrder(r, p)
	if r.Intn(5) == 0 {
		order = append(order, r.Intn(len(p.Batches)))
	}
	for _, b := range order[:len(order)-r.Intn(2)] {
		d := api.Dip{Batch: b}
		if len(l) > 0 && r.Intn(15) == 0 {
			d.Hour = l[len(l)-1].Hour + p.Dip - 1
		} else {
			for e := failed(p, l, d); slices.Contains(e, api.ErrOrder) || slices.Contains(e, api.ErrState) || slices.Contains(e, api.ErrShort) && r.Intn(8) > 0; e = failed(p, l, d) {
				d.Hour++
			}
		}
		switch r.Intn(12) {
		case 0:
			d.Hour--
		case 1:
			d.Hour += r.Intn(5)
		case 2:
			if i := lastOf(l, b); i >= 0 && coatOf(l, i) < len(p.Batches[b].Dry) {
				d.Hour = max(d.Hour, dries(p, l, i).Lo+p.Batches[b].Late+r.Intn(2))
			}
		}
		l = append(l, d)
		if len(failed(p, l[:len(l)-1], d)) > 0 {
			break
		}
	}
	return l
}

// P7.1: each check holds just when it should, whatever came before.
func TestAllChecks(t *testing.T) {
	r := rand.New(rand.NewSource(1))
	seen := map[api.Errno]int{}
	for range 5 * tries {
		p := anyShop(r, api.MaxCoats, 10)
		l := anyPlan(r, p)
		want, e := reckoned(p, l)
		if n, f := Check(p, l); n != want || f != e {
			t.Errorf("Check(%v, %v) = %d, error %d, not %d, error %d", p, l, n, f, want, e)
		}
		seen[e]++
	}
	for _, e := range []api.Errno{api.OK, api.ErrRange, api.ErrFull, api.ErrOrder, api.ErrState, api.ErrRefuse, api.ErrShort, api.ErrNone} {
		if seen[e] < tries/100 {
			t.Errorf("only some kinds of plans are tested: %v", seen)
		}
	}
}

// P7.2: each dip begins at the first hour at which the checks hold, of all hours, one by one.
func TestAllTimes(t *testing.T) {
	r := rand.New(rand.NewSource(2))
	seen := map[api.Errno]int{}
	for range 3 * tries {
		p := anyShop(r, api.MaxCoats, 10)
		order := anyOrder(r, p)
		switch r.Intn(12) {
		case 0:
			order[r.Intn(len(order))] = r.Intn(api.MaxShop+3) - 2
		case 1:
			order = order[:r.Intn(len(order))]
		}
		l, want := reckonedTimes(p, order)
		hours, n, e := Times(p, order)
		if n != len(l) || e != want {
			t.Errorf("Times(%v, %v) = %v, %d, error %d, not %v, error %d", p, order, hours, n, e, l, want)
		}
		if e != api.OK && len(hours) != 0 || e == api.OK && !slices.Equal(planOf(order, hours), l) {
			t.Errorf("Times(%v, %v) = %v, %d, error %d, not %v", p, order, hours, n, e, l)
		}
		seen[e]++
	}
	for _, e := range []api.Errno{api.OK, api.ErrRange, api.ErrFull, api.ErrRefuse, api.ErrNone} {
		if seen[e] < tries/50 {
			t.Errorf("only some kinds of orders are tested: %v", seen)
		}
	}
}

// goodOrder returns a shop, and an order that has times.
func goodOrder(r *rand.Rand, coats, dry int) (api.Paint, []int, []api.Dip) {
	for {
		p := anyShop(r, coats, dry)
		order := anyOrder(r, p)
		if hours, _, e := Times(p, order); e == api.OK {
			return p, order, planOf(order, hours)
		}
	}
}

// truths returns all lists of how long the coats of a plan can truly dry.
func truths(p api.Paint, l []api.Dip) [][]int {
	all := [][]int{nil}
	for i, d := range l {
		var longer [][]int
		s := p.Batches[d.Batch].Dry[coatOf(l, i)]
		for dry := s.Lo; dry <= s.Hi; dry++ {
			for _, u := range all {
				longer = append(longer, append(slices.Clone(u), dry))
			}
		}
		all = longer
	}
	return all
}

// wetIn returns how many batches are wet at an hour, if their coats truly dry for so many hours.
func wetIn(p api.Paint, l []api.Dip, dry []int, hour int) int {
	wet := map[int]bool{}
	for i, d := range l {
		if end := d.Hour + p.Dip; end <= hour {
			wet[d.Batch] = hour < end+dry[i]
		}
	}
	many := 0
	for _, is := range wet {
		if is {
			many++
		}
	}
	return many
}

// P7.3, P3: at each hour the span contains the batches that are truly wet, and both of its ends are reached.
func TestWetInAllTruths(t *testing.T) {
	r := rand.New(rand.NewSource(3))
	seen := map[api.Span]int{}
	for range tries / 5 {
		p, order, l := goodOrder(r, 5, 5)
		all := truths(p, l)
		for hour := range l[len(l)-1].Hour + p.Dip + 7 {
			want := span(math.MaxInt, 0)
			for _, u := range all {
				n := wetIn(p, l, u, hour)
				want = span(min(want.Lo, n), max(want.Hi, n))
			}
			if s, e := Wet(p, order, hour); s != want || e != api.OK {
				t.Errorf("Wet(%v, %v, %d) = %v, error %d, not %v", p, order, hour, s, e, want)
			}
			seen[want]++
		}
	}
	for _, s := range []api.Span{span(0, 0), span(0, 1), span(1, 1), span(0, 2), span(1, 2), span(2, 2)} {
		if seen[s] < tries/50 {
			t.Errorf("only some kinds of results are tested: %v", seen)
		}
	}
}

// allOrders returns all orders in which each batch has all its coats, in lexicographic order.
func allOrders(p api.Paint) (all [][]int) {
	left := make([]int, len(p.Batches))
	for i, b := range p.Batches {
		left[i] = len(b.Dry)
	}
	var grow func(l []int)
	grow = func(l []int) {
		isFull := true
		for b := range left {
			if left[b] > 0 {
				isFull = false
				left[b]--
				grow(append(slices.Clone(l), b))
				left[b]++
			}
		}
		if isFull {
			all = append(all, l)
		}
	}
	grow(nil)
	return all
}

// doneAt returns the hour at which all is done.
func doneAt(p api.Paint, l []api.Dip) int {
	hour := 0
	for i := range l {
		hour = max(hour, dries(p, l, i).Hi)
	}
	return hour
}

// P7.4, P7.6: of all orders, none is done earlier, and none that is done as early comes first.
func TestBestOfAllOrders(t *testing.T) {
	r := rand.New(rand.NewSource(4))
	none, tied, notFirst := 0, 0, 0
	for range tries / 2 {
		p := anyShop(r, 6, 10)
		var want []int
		hour, equal := 0, 0
		orders := allOrders(p)
		for _, order := range orders {
			l, e := reckonedTimes(p, order)
			if e != api.OK {
				continue
			}
			done := doneAt(p, l)
			if want == nil || done < hour {
				want, hour, equal = order, done, 0
			} else if done == hour {
				equal++
			}
		}
		order, n, e := Best(p)
		if !slices.Equal(order, want) || n != hour || e == api.OK != (want != nil) || e != api.OK && e != api.ErrNone {
			t.Errorf("Best(%v) = %v, %d, error %d, not %v, %d", p, order, n, e, want, hour)
		}
		switch {
		case want == nil:
			none++
		case equal > 0:
			tied++
		}
		if want != nil && !slices.Equal(want, orders[0]) {
			notFirst++
		}
	}
	if min(none, tied, notFirst) < tries/20 {
		t.Errorf("only some kinds of shops are tested: %d without an order, %d with several, %d not the first", none, tied, notFirst)
	}
}

// P7.4, P7.6: the same with many orders, up to as many as there can be.
func TestBestOfMostOrders(t *testing.T) {
	r := rand.New(rand.NewSource(5))
	for i := range 24 {
		p := shopOf(1+r.Intn(4), 1+r.Intn(4))
		for range api.MaxShop {
			p.Batches = append(p.Batches, batch(20+r.Intn(60)))
		}
		for coat := range api.MaxCoats - i%3 {
			addCoat(r, &p.Batches[coat%api.MaxShop], 12)
		}
		var want []int
		hour := 0
		for _, order := range allOrders(p) {
			if hours, _, e := Times(p, order); e == api.OK {
				if done := doneAt(p, planOf(order, hours)); want == nil || done < hour {
					want, hour = order, done
				}
			}
		}
		if order, n, _ := Best(p); !slices.Equal(order, want) || n != hour {
			t.Errorf("Best(%v) = %v, %d, not %v, %d", p, order, n, want, hour)
		}
	}
}

// P7.6: the dips of an order at its times are a plan that Check accepts, and none of them can begin an hour earlier.
func TestTimesAreAPlan(t *testing.T) {
	r := rand.New(rand.NewSource(6))
	for range tries {
		p, _, l := goodOrder(r, api.MaxCoats, 100)
		if n, e := Check(p, l); n != len(l) || e != api.OK {
			t.Errorf("Check(%v, %v) = %d, error %d", p, l, n, e)
		}
		for i := range l {
			earlier := slices.Clone(l)
			earlier[i].Hour--
			n, e := Check(p, earlier)
			isToo := e == api.ErrRange || e == api.ErrOrder || e == api.ErrState || e == api.ErrShort
			if n != i || !isToo {
				t.Errorf("Check(%v, %v) = %d, error %d, although the dip %d begins too early", p, earlier, n, e, i)
			}
		}
	}
}

// P7.6: however long coats truly dry, none goes on before the last one is dry, nor much too late; and no more batches hang than there are racks.
func TestTruePlans(t *testing.T) {
	r := rand.New(rand.NewSource(7))
	for plans := 0; plans < tries; {
		p := anyShop(r, api.MaxCoats, 10)
		l := anyPlan(r, p)
		if _, e := Check(p, l); e != api.OK {
			continue
		}
		plans++
		for i, d := range l {
			last := lastOf(l[:i], d.Batch)
			if last < 0 {
				continue
			}
			s := p.Batches[d.Batch].Dry[coatOf(l, last)]
			for dry := s.Lo; dry <= s.Hi; dry++ {
				waited := d.Hour - (l[last].Hour + p.Dip + dry)
				if waited < 0 || waited > p.Batches[d.Batch].Late {
					t.Errorf("%v is right in %v, but the dip %d begins %d hours after the batch is dry", l, p, i, waited)
				}
			}
		}
		for hour := range doneAt(p, l) + 1 {
			if n := hanging(p, l, -1, hour); n > p.Racks {
				t.Errorf("%v is right in %v, but %d batches hang at %d", l, p, n, hour)
			}
		}
	}
}

// P7.6: with more racks, a shorter dip, or what dries faster at most, no dip of an order begins later.
func TestNothingIsLater(t *testing.T) {
	r := rand.New(rand.NewSource(8))
	seen := map[string]int{}
	for range tries {
		p, order, l := goodOrder(r, api.MaxCoats, 10)
		for name, other := range map[string]api.Paint{
			"racks": changed(p, func(p *api.Paint) { p.Racks = min(p.Racks+1, api.MaxRacks) }),
			"dip":   changed(p, func(p *api.Paint) { p.Dip = max(p.Dip-1, 1) }),
			"dry": changed(p, func(p *api.Paint) {
				b := p.Batches[r.Intn(len(p.Batches))].Dry
				s := &b[r.Intn(len(b))]
				s.Hi = max(s.Hi-1, s.Lo)
			}),
		} {
			hours, _, e := Times(other, order)
			if e == api.ErrRefuse {
				continue
			}
			if e != api.OK {
				t.Errorf("Times(%v, %v): error %d", other, order, e)
				continue
			}
			isEarlier := false
			for i, d := range l {
				if hours[i] > d.Hour {
					t.Errorf("Times(%v, %v) = %v, but %v with other %s", other, order, hours, l, name)
				}
				isEarlier = isEarlier || hours[i] < d.Hour
			}
			if isEarlier {
				seen[name]++
			}
		}
	}
	if min(seen["racks"], seen["dip"], seen["dry"]) < tries/10 {
		t.Errorf("only some kinds of changes are tested: %v", seen)
	}
}

// P7.2: how late a batch may be makes no difference to the times, but to whether there are any.
func TestLaterTimes(t *testing.T) {
	r := rand.New(rand.NewSource(9))
	refused, same := 0, 0
	for range tries {
		p, order, l := goodOrder(r, api.MaxCoats, 10)
		other := changed(p, func(p *api.Paint) { p.Batches[r.Intn(len(p.Batches))].Late = r.Intn(20) })
		switch hours, _, e := Times(other, order); {
		case e == api.ErrRefuse:
			refused++
		case e != api.OK || !slices.Equal(planOf(order, hours), l):
			t.Errorf("Times(%v, %v) = %v, error %d, but %v if other batches may be late", other, order, hours, e, l)
		default:
			same++
		}
	}
	if min(refused, same) < tries/20 {
		t.Errorf("only some kinds of changes are tested: %d refused, %d the same", refused, same)
	}
}

// P7.4: if a batch may be later, all can be done as early as before, and perhaps earlier.
func TestLaterBest(t *testing.T) {
	r := rand.New(rand.NewSource(11))
	less, possible := 0, 0
	for range tries {
		p := anyShop(r, 7, 10)
		later := changed(p, func(p *api.Paint) { p.Batches[r.Intn(len(p.Batches))].Late += 1 + r.Intn(10) })
		_, before, e := Best(p)
		_, after, f := Best(later)
		switch {
		case e == api.OK && (f != api.OK || after > before):
			t.Errorf("Best(%v) = %d, error %d, but %d if batches may not be so late", later, after, f, before)
		case e == api.OK && after < before:
			less++
		case e != f:
			possible++
		}
	}
	if min(less, possible) < tries/100 {
		t.Errorf("only some kinds of changes are tested: %d less, %d possible", less, possible)
	}
}

// anyNumber returns a number that is often small, or at an end.
func anyNumber(r *rand.Rand) int {
	odd := []int{math.MinInt, math.MaxInt, -1, api.MaxHour, api.MaxHour + 1, api.MaxDry, api.MaxDry + 1}
	if r.Intn(12) == 0 {
		return odd[r.Intn(len(odd))]
	}
	return r.Intn(6)
}

// P1: no argument makes a function panic, or go on for ever; what is not valid has an error.
func TestAnyArguments(t *testing.T) {
	r := rand.New(rand.NewSource(10))
	good := 0
	for range 20 * tries {
		p := shopOf(anyNumber(r), anyNumber(r))
		for range r.Intn(6) {
			b := api.Coats{Late: anyNumber(r)}
			for range r.Intn(4) {
				lo := anyNumber(r)
				b.Dry = append(b.Dry, span(lo, max(lo, anyNumber(r))))
			}
			p.Batches = append(p.Batches, b)
		}
		var dips []api.Dip
		var order []int
		for range r.Intn(12) {
			dips = append(dips, api.Dip{Batch: anyNumber(r), Hour: anyNumber(r)})
			order = append(order, anyNumber(r))
		}
		_, e := Check(p, dips)
		_, _, f := Times(p, order)
		_, g := Wet(p, order, anyNumber(r))
		_, _, h := Best(p)
		if isWrong := e == api.ErrArg; isWrong != (f == api.ErrArg) || isWrong != (g == api.ErrArg) || isWrong != (h == api.ErrArg) {
			t.Errorf("%v is valid for some functions: errors %d, %d, %d, %d", p, e, f, g, h)
		}
		if e != api.ErrArg {
			good++
		}
	}
	if good < tries {
		t.Errorf("only %d shops are valid", good)
	}
}
