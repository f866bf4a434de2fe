package order

import (
	"math"
	"math/bits"
	"math/rand"
	"slices"
	"testing"

	"pencilworks/api"
)

// tries is how often a property is tried.
const tries = 1000

// anySpan returns a span of at most so many numbers more than one, from 0 to most.
func anySpan(r *rand.Rand, most, wide int) api.Span {
	lo := r.Intn(most + 1)
	return span(lo, min(most, lo+r.Intn(wide+1)))
}

// kind is how great the numbers of a sale are, and how far spans go.
type kind struct{ shades, many, asked, hours, price, wide int }

// upTo returns a number from 0 to most; the greater ones come more often.
func upTo(r *rand.Rand, most int) int { return max(r.Intn(most+1), r.Intn(most+1)) }

// anySale returns a sale of at most so many supplies and orders.
func (k kind) anySale(r *rand.Rand, count, orders int) (s api.Sale) {
	for range upTo(r, count) {
		s.Supplies = append(s.Supplies, k.anySupply(r))
	}
	for range upTo(r, orders) {
		s.Orders = append(s.Orders, ordered(r.Intn(k.shades), r.Intn(k.asked+1), r.Intn(k.hours+1), r.Intn(k.price+1)))
	}
	return s
}

func (k kind) anySupply(r *rand.Rand) api.Supply {
	return api.Supply{
		Shades: r.Intn(1<<k.shades) | r.Intn(1<<k.shades),
		Many:   anySpan(r, k.many, k.wide),
		Ready:  anySpan(r, k.hours/2, k.wide),
	}
}

// small returns a sale of few pencils, all truths of which can be looked at.
func small(r *rand.Rand) api.Sale {
	return kind{shades: 2, many: 5, asked: 3, hours: 3, price: 3, wide: 3}.anySale(r, 4, 4)
}

// anySale returns a sale of up to eight supplies and orders; some have few pencils, and some have as many as there can be.
func anySale(r *rand.Rand) api.Sale {
	kinds := []kind{
		{shades: 3, many: 4, asked: 3, hours: 9, price: 5, wide: 3},
		{shades: 3, many: 9, asked: 6, hours: 9, price: 5, wide: 3},
		{shades: 8, many: 300, asked: 100, hours: 99, price: 300, wide: 30},
		{shades: 5, many: api.MaxMany, asked: api.MaxMany / 2, hours: api.MaxHour, price: api.MaxBid, wide: api.MaxMany / 3},
		{shades: 4, many: api.MaxMany, asked: api.MaxMany, hours: 5, price: api.MaxBid, wide: 5},
	}
	return kinds[r.Intn(len(kinds))].anySale(r, api.MaxSupplies, api.MaxOrders)
}

// known returns a supply of which a truth is known.
func known(s api.Supply, many, ready int) api.Supply {
	return supply(s.Shades, many, many, ready, ready)
}

// worstOf returns the supplies of a sale in the worst case.
func worstOf(s api.Sale) (l []api.Supply) {
	for _, x := range s.Supplies {
		l = append(l, known(x, x.Many.Lo, x.Ready.Hi))
	}
	return l
}

// truths calls a function with each truth of some supplies.
func truths(l []api.Supply, see func(t []api.Supply)) {
	t := make([]api.Supply, len(l))
	var next func(i int)
	next = func(i int) {
		if i == len(l) {
			see(t)
			return
		}
		for many := l[i].Many.Lo; many <= l[i].Many.Hi; many++ {
			for ready := l[i].Ready.Lo; ready <= l[i].Ready.Hi; ready++ {
				t[i] = known(l[i], many, ready)
				next(i + 1)
			}
		}
	}
	next(0)
}

// serves tells whether a supply of which all is known can serve an order.
func serves(x api.Supply, o api.Order) bool {
	return x.Shades&(1<<o.Shade) != 0 && x.Ready.Lo <= o.Due
}

// hand hands pencils out one by one, and takes back what it has handed to another order where this helps.
type hand struct {
	pencils []api.Supply // a supply for each pencil
	orders  []api.Order
	to      []int // which order each pencil is handed to; -1 for none
}

// serve finds a pencil for an order.
func (h *hand) serve(order int, seen []bool) bool {
	for i, x := range h.pencils {
		if seen[i] || !serves(x, h.orders[order]) {
			continue
		}
		seen[i] = true
		if h.to[i] < 0 || h.serve(h.to[i], seen) {
			h.to[i] = order
			return true
		}
	}
	return false
}

// canMeet tells whether the orders of a set can be met in a truth.
func canMeet(t []api.Supply, l []api.Order, set int) bool {
	h := hand{orders: l}
	for _, x := range t {
		h.pencils = append(h.pencils, slices.Repeat(supplies(x), x.Many.Lo)...)
	}
	h.to = slices.Repeat([]int{-1}, len(h.pencils))
	for i, o := range l {
		if set&(1<<i) == 0 {
			continue
		}
		for range o.Many {
			if !h.serve(i, make([]bool, len(h.pencils))) {
				return false
			}
		}
	}
	return true
}

// allOf returns the set of all orders.
func allOf(l []api.Order) int { return 1<<len(l) - 1 }

// priceOf returns the price of a set of orders.
func priceOf(l []api.Order, set int) (n int) {
	for i, o := range l {
		if set&(1<<i) != 0 {
			n += o.Price
		}
	}
	return n
}

// P10.1, P10.5: in each truth all orders can be met if Meets says so; in none if it says so; and otherwise in one, and not in another one.
func TestMeetsInAllTruths(t *testing.T) {
	r := rand.New(rand.NewSource(1))
	seen := map[int]int{}
	for range tries {
		s := small(r)
		met, not := 0, 0
		truths(s.Supplies, func(x []api.Supply) {
			if canMeet(x, s.Orders, allOf(s.Orders)) {
				met++
			} else {
				not++
			}
		})
		want := api.MetPerhaps
		switch 0 {
		case not:
			want = api.MetAlways
		case met:
			want = api.MetNever
		}
		if n, e := Meets(s); n != want || e != api.OK {
			t.Errorf("Meets(%v) = %d, error %d, but they are met in %d truths, and not in %d", s, n, e, met, not)
		}
		seen[want]++
	}
	if min(seen[api.MetNever], seen[api.MetPerhaps], seen[api.MetAlways]) < tries/10 {
		t.Errorf("only some kinds of sales are tested: %v", seen)
	}
}

// P10.4, P10.5, P10.7: what is accepted can be met in each truth; of all other sets that can, none has a greater price, and none with the same price has a lesser number.
func TestAcceptInAllTruths(t *testing.T) {
	r := rand.New(rand.NewSource(2))
	some, equal := 0, 0
	for range tries {
		s := small(r)
		can := slices.Repeat([]bool{true}, allOf(s.Orders)+1)
		truths(s.Supplies, func(x []api.Supply) {
			for set := range can {
				can[set] = can[set] && canMeet(x, s.Orders, set)
			}
		})
		best := 0
		for set := range can {
			if can[set] && priceOf(s.Orders, set) > priceOf(s.Orders, best) {
				best = set
			}
		}
		if set, n, e := Accept(s); set != best || n != priceOf(s.Orders, best) || e != api.OK {
			t.Errorf("Accept(%v) = %d, %d, error %d, not %d, %d", s, set, n, e, best, priceOf(s.Orders, best))
		}
		if best != 0 && best != allOf(s.Orders) {
			some++
		}
		for set := best + 1; set < len(can); set++ {
			if can[set] && priceOf(s.Orders, set) == priceOf(s.Orders, best) {
				equal++
				break
			}
		}
	}
	if min(some, equal) < tries/10 {
		t.Errorf("only some kinds of sales are tested: of %d some orders are accepted, %d have several sets", some, equal)
	}
}

// firstShare returns, of all ways to share the pencils of a truth out, one by one, that which gives most, and of these the last one in lexicographic order.
func firstShare(l []api.Supply, o []api.Order) (first [][]int) {
	open, rows, most := []int{}, [][]int{}, -1
	for _, x := range o {
		open = append(open, x.Many)
	}
	for range l {
		rows = append(rows, make([]int, len(o)))
	}
	var next func(i, j, left, given int)
	next = func(i, j, left, given int) {
		switch {
		case i == len(l) && given > most:
			most, first = given, nil
			for _, row := range rows {
				first = append(first, slices.Clone(row))
			}
		case i == len(l):
		case j == len(o) && i+1 == len(l):
			next(i+1, 0, 0, given)
		case j == len(o):
			next(i+1, 0, l[i+1].Many.Lo, given)
		default:
			n := 0
			if serves(l[i], o[j]) {
				n = min(left, open[j])
			}
			for ; n >= 0; n-- {
				rows[i][j] = n
				open[j] -= n
				next(i, j+1, left-n, given+n)
				open[j] += n
			}
		}
	}
	if len(l) > 0 {
		next(0, 0, l[0].Many.Lo, 0)
	}
	return first
}

// P10.3: of all ways to share pencils out, Share returns the one that gives most, and of several the one whose first numbers are greatest.
func TestAllWaysToShare(t *testing.T) {
	r := rand.New(rand.NewSource(3))
	given := 0
	for range tries {
		s := kind{shades: 3, many: 6, asked: 4, hours: 3, price: 3, wide: 2}.anySale(r, 4, 4)
		want := firstShare(worstOf(s), s.Orders)
		if l, e := Share(s); !sameRows(l, want) || e != api.OK {
			t.Errorf("Share(%v) = %v, error %d, not %v", s, l, e, want)
		}
		if total(want) > 1 {
			given++
		}
	}
	if given < tries/3 {
		t.Errorf("only %d sales are tested in which pencils are given", given)
	}
}

// total returns the sum of all numbers of some rows.
func total(rows [][]int) (n int) {
	for _, row := range rows {
		for _, x := range row {
			n += x
		}
	}
	return n
}

// asked returns how many pencils all orders ask for.
func asked(l []api.Order) (n int) {
	for _, o := range l {
		n += o.Many
	}
	return n
}

// desk is what is left of supplies and what orders still ask for, while pencils are shared out; shut tells which supplies give an order nothing more.
type desk struct {
	left, open []int
	shut       [][]bool
}

// deskOf returns a desk at which nothing has been given, in the worst case of a sale.
func deskOf(s api.Sale) (d desk) {
	for _, x := range worstOf(s) {
		d.left = append(d.left, x.Many.Lo)
		row := make([]bool, len(s.Orders))
		for j, o := range s.Orders {
			row[j] = !serves(x, o)
		}
		d.shut = append(d.shut, row)
	}
	for _, o := range s.Orders {
		d.open = append(d.open, o.Many)
	}
	return d
}

// lack returns how many pencils the orders of a set ask for, less those of all supplies that can give one of them some.
func (d desk) lack(set int) (n int) {
	for j, open := range d.open {
		if set&(1<<j) != 0 {
			n += open
		}
	}
	for i, left := range d.left {
		for j := range d.open {
			if set&(1<<j) != 0 && !d.shut[i][j] {
				n -= left
				break
			}
		}
	}
	return n
}

// most returns how many pencils can still be given: those that are asked for, less those that lack.
func (d desk) most() int {
	all, lacks := 0, 0
	for _, open := range d.open {
		all += open
	}
	for set := range 1 << len(d.open) {
		lacks = max(lacks, d.lack(set))
	}
	return all - lacks
}

// give gives so many pencils, and tells whether there were as many, and as many were asked for.
func (d desk) give(supply, order, n int) bool {
	d.left[supply] -= n
	d.open[order] -= n
	return d.left[supply] >= 0 && d.open[order] >= 0
}

// P10.3: what is shared out, in sales of any size, is no more than there is and than is asked for; it is all that can be given; and no number can be greater where those before it stay.
func TestShareOfAnySale(t *testing.T) {
	r := rand.New(rand.NewSource(4))
	split := 0
	for range tries {
		s := anySale(r)
		rows, e := Share(s)
		d := deskOf(s)
		rest := d.most()
		if e != api.OK || len(rows) != len(s.Supplies) || total(rows) != rest {
			t.Fatalf("Share(%v) = %v, error %d, but %d pencils can be given", s, rows, e, rest)
		}
		for i, row := range rows {
			if len(row) != len(s.Orders) {
				t.Fatalf("Share(%v) = %v", s, rows)
			}
			for j, n := range row {
				if n < 0 || n > 0 && d.shut[i][j] || !d.give(i, j, n) {
					t.Fatalf("Share(%v) = %v, but %d of %d cannot be given to %d", s, rows, n, i, j)
				}
				if rest -= n; !d.shut[i][j] {
					if d.give(i, j, 1) && d.most() == rest-1 {
						t.Errorf("Share(%v) = %v, but %d can give more than %d to %d", s, rows, i, n, j)
					}
					d.give(i, j, -1)
				}
				if d.shut[i][j] = true; d.most() != rest {
					t.Fatalf("Share(%v) = %v, but fewer can be given after %d of %d to %d", s, rows, n, i, j)
				}
				if n > 0 && n < min(s.Supplies[i].Many.Lo, s.Orders[j].Many) {
					split++
				}
			}
		}
	}
	if split < tries {
		t.Errorf("only %d numbers are tested that are greater than 0 and not all", split)
	}
}

// P10.2, P10.6: so many pencils lack as are asked for and cannot be shared out; no set lacks more, none with fewer orders as many, and none with as many orders and a lesser number; orders are met always just if no set lacks anything.
func TestLackOfAnySet(t *testing.T) {
	r := rand.New(rand.NewSource(5))
	none, several := 0, 0
	for range tries {
		s := anySale(r)
		d := deskOf(s)
		want, first, most, equal := api.ErrNone, 0, 0, 0
		for set := range 1 << len(s.Orders) {
			switch lack := d.lack(set); {
			case lack > most:
				want, first, most, equal = api.OK, set, lack, 0
			case lack == most && most > 0:
				equal++
				if bits.OnesCount(uint(set)) < bits.OnesCount(uint(first)) {
					first = set
				}
			}
		}
		if set, n, e := Lack(s); set != first || n != most || e != want {
			t.Errorf("Lack(%v) = %d, %d, error %d, not %d, %d, error %d", s, set, n, e, first, most, want)
		}
		if rows, _ := Share(s); total(rows)+most != asked(s.Orders) {
			t.Errorf("%v: %d are shared out, %d lack, but %d are asked for", s, total(rows), most, asked(s.Orders))
		}
		if n, _ := Meets(s); (n == api.MetAlways) != (want == api.ErrNone) {
			t.Errorf("Meets(%v) = %d, but Lack has the error %d", s, n, want)
		}
		if want == api.ErrNone {
			none++
		}
		if equal > 0 {
			several++
		}
	}
	if none < tries/5 || none > tries*4/5 || several < tries/10 {
		t.Errorf("only some kinds of sales are tested: %d lack nothing, %d have several sets that lack most", none, several)
	}
}

// some returns a sale with only the orders of a set.
func some(s api.Sale, set int) api.Sale {
	l := orders()
	for i, o := range s.Orders {
		if set&(1<<i) != 0 {
			l = append(l, o)
		}
	}
	return saleOf(s.Supplies, l)
}

// P10.4, P10.7: of up to eight orders, those are accepted that can be met always on their own, and no other set of these has a greater price.
func TestAcceptOfAnySale(t *testing.T) {
	r := rand.New(rand.NewSource(6))
	seen := map[bool]int{}
	for range tries / 5 {
		s := anySale(r)
		best := 0
		for set := range 1 << len(s.Orders) {
			if rows, _ := Share(some(s, set)); total(rows) == asked(some(s, set).Orders) && priceOf(s.Orders, set) > priceOf(s.Orders, best) {
				best = set
			}
		}
		set, n, e := Accept(s)
		if set != best || n != priceOf(s.Orders, best) || e != api.OK {
			t.Errorf("Accept(%v) = %d, %d, error %d, not %d, %d", s, set, n, e, best, priceOf(s.Orders, best))
		}
		if n, _ := Meets(some(s, set)); n != api.MetAlways {
			t.Errorf("Accept(%v) = %d, but these are met: %d", s, set, n)
		}
		seen[best == allOf(s.Orders)]++
	}
	if min(seen[true], seen[false]) < tries/50 {
		t.Errorf("only some kinds of sales are tested: %v", seen)
	}
}

// P10.6: with one supply more, of just as many pencils as lack, at the hour 0 and of all shades, all orders are met always; with one of fewer pencils they are not.
func TestOneSupplyMore(t *testing.T) {
	r := rand.New(rand.NewSource(7))
	lacking := 0
	for range tries {
		s := anySale(r)
		_, n, e := Lack(s)
		if e != api.OK || n > api.MaxMany || len(s.Supplies) == api.MaxSupplies {
			continue
		}
		lacking++
		more := saleOf(append(slices.Clone(s.Supplies), batchOf(255, n)), s.Orders)
		if x, e := Meets(more); x != api.MetAlways || e != api.OK {
			t.Errorf("Meets(%v) = %d, error %d", more, x, e)
		}
		if _, _, e := Lack(more); e != api.ErrNone {
			t.Errorf("Lack(%v) has the error %d", more, e)
		}
		more.Supplies[len(s.Supplies)] = batchOf(255, n-1)
		if x, e := Meets(more); x == api.MetAlways || e != api.OK {
			t.Errorf("Meets(%v) = %d, error %d", more, x, e)
		}
		if _, n, e := Lack(more); n != 1 || e != api.OK {
			t.Errorf("Lack(%v) = %d, error %d", more, n, e)
		}
	}
	if lacking < tries/5 {
		t.Errorf("only %d lacks are tested", lacking)
	}
}

// improved returns a sale with one supply more, or with more or earlier pencils of one.
func improved(r *rand.Rand, s api.Sale) api.Sale {
	l := slices.Clone(s.Supplies)
	if len(l) == 0 || len(l) < api.MaxSupplies && r.Intn(3) == 0 {
		k := kind{shades: 8, many: 100, hours: api.MaxHour, wide: 9}
		return saleOf(slices.Insert(l, r.Intn(len(l)+1), k.anySupply(r)), s.Orders)
	}
	x := &l[r.Intn(len(l))]
	if r.Intn(2) == 0 {
		more := r.Intn(9)
		x.Many = span(min(api.MaxMany, x.Many.Lo+more), min(api.MaxMany, x.Many.Hi+more))
	} else {
		sooner := r.Intn(x.Ready.Hi + 1)
		x.Ready = span(max(0, x.Ready.Lo-sooner), x.Ready.Hi-sooner)
	}
	return saleOf(l, s.Orders)
}

// P10.7: with one supply more, or more pencils of one, or earlier ones, orders that were met always still are, no more is lacking, and no less is accepted.
func TestMorePencils(t *testing.T) {
	r := rand.New(rand.NewSource(8))
	changed := map[string]int{}
	for range 2 * tries {
		s := anySale(r)
		more := improved(r, s)
		before, _ := Meets(s)
		after, _ := Meets(more)
		_, lacked, _ := Lack(s)
		_, lacks, _ := Lack(more)
		_, price, _ := Accept(s)
		_, better, _ := Accept(more)
		if after < before || lacks > lacked || better < price {
			t.Errorf("%v: %d, %d, %d, but with less, %v: %d, %d, %d", more, after, lacks, better, s, before, lacked, price)
		}
		if after > before {
			changed["met"]++
		}
		if lacks < lacked {
			changed["lacking"]++
		}
		if better > price {
			changed["accepted"]++
		}
	}
	if min(changed["met"], changed["lacking"], changed["accepted"]) < tries/50 {
		t.Errorf("only some changes are tested: %v", changed)
	}
}

// P10.7, P11: the order of supplies makes no difference to what is met, lacks or is accepted.
func TestOrderOfSupplies(t *testing.T) {
	r := rand.New(rand.NewSource(9))
	for range tries {
		s := anySale(r)
		turned := saleOf(slices.Clone(s.Supplies), s.Orders)
		r.Shuffle(len(turned.Supplies), func(i, j int) {
			turned.Supplies[i], turned.Supplies[j] = turned.Supplies[j], turned.Supplies[i]
		})
		before, _ := Meets(s)
		if after, e := Meets(turned); after != before || e != api.OK {
			t.Errorf("Meets(%v) = %d, error %d, but %d of %v", turned, after, e, before, s)
		}
		lacked, n, none := Lack(s)
		if set, m, e := Lack(turned); set != lacked || m != n || e != none {
			t.Errorf("Lack(%v) = %d, %d, error %d, but %d, %d, error %d of %v", turned, set, m, e, lacked, n, none, s)
		}
		accepted, price, _ := Accept(s)
		if set, p, e := Accept(turned); set != accepted || p != price || e != api.OK {
			t.Errorf("Accept(%v) = %d, %d, error %d, but %d, %d of %v", turned, set, p, e, accepted, price, s)
		}
	}
}

// oddNumber returns a number that may be valid, at a bound, or far from it.
func oddNumber(r *rand.Rand) int {
	odd := []int{math.MinInt, math.MinInt + 1, -1, 0, 1, 7, 8, 255, 256, api.MaxBid, api.MaxBid + 1, api.MaxMany, api.MaxMany + 1, math.MaxInt - 1, math.MaxInt}
	if r.Intn(2) == 0 {
		return r.Intn(9)
	}
	return odd[r.Intn(len(odd))]
}

// oddSale returns a sale that may be valid; each number is odd once in so many times.
func oddSale(r *rand.Rand, times int) api.Sale {
	s := saleOf(make([]api.Supply, r.Intn(10)), make([]api.Order, r.Intn(10)))
	for i := range s.Supplies {
		x := supply(r.Intn(256), r.Intn(9), 9+r.Intn(9), r.Intn(9), 9)
		for _, n := range []*int{&x.Shades, &x.Many.Lo, &x.Many.Hi, &x.Ready.Lo, &x.Ready.Hi} {
			if r.Intn(times) == 0 {
				*n = oddNumber(r)
			}
		}
		s.Supplies[i] = x
	}
	for i := range s.Orders {
		o := ordered(r.Intn(8), r.Intn(20), r.Intn(20), r.Intn(9))
		for _, n := range []*int{&o.Shade, &o.Many, &o.Due, &o.Price} {
			if r.Intn(times) == 0 {
				*n = oddNumber(r)
			}
		}
		s.Orders[i] = o
	}
	return s
}

// P1, R2: every function ends and does not panic, for all arguments; all find the same sales valid, and with an error all other results are zero.
func TestAnyArguments(t *testing.T) {
	r := rand.New(rand.NewSource(10))
	seen := map[api.Errno]int{}
	for range 5 * tries {
		s := oddSale(r, []int{2, 100, 1000}[r.Intn(3)])
		n, want := Meets(s)
		if want == api.ErrArg {
			expectErrArg(t, "an odd sale", s)
		}
		set, missing, e := Lack(s)
		if e == api.ErrNone && (set != 0 || missing != 0 || n != api.MetAlways || want != api.OK) {
			t.Errorf("Lack(%v) = %d, %d, error %d, but Meets = %d", s, set, missing, e, n)
		}
		seen[e]++
		_, shared := Share(s)
		_, _, accepted := Accept(s)
		if shared != want || accepted != want {
			t.Errorf("%v: errors %d, %d and %d", s, want, shared, accepted)
		}
	}
	if min(seen[api.OK], seen[api.ErrArg], seen[api.ErrNone]) < tries/10 {
		t.Errorf("only some kinds of arguments are tested: %v", seen)
	}
}
