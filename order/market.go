package order

import (
	"iter"
	"maps"

	"pencilworks/api"
)

// batch is what has come of a supply in a truth.
type batch struct{ shades, many, ready int }

// canServe tells whether pencils of a batch may be given to an order.
func (b batch) canServe(o api.Order) bool {
	return b.shades>>o.Shade&1 == 1 && b.ready <= o.Due
}

// outcome is a case: the truth at one end of what can come of supplies.
type outcome interface {
	// of returns what comes of a supply.
	of(api.Supply) batch
}

// worst is the worst case.
type worst struct{}

func (worst) of(s api.Supply) batch { return batch{s.Shades, s.Many.Lo, s.Ready.Hi} }

// best is the best case.
type best struct{}

func (best) of(s api.Supply) batch { return batch{s.Shades, s.Many.Hi, s.Ready.Lo} }

// market is a sale in a truth.
type market struct {
	batches []batch
	orders  []api.Order
}

// marketIn returns a sale in a case.
func marketIn(c outcome, s api.Sale) market {
	m := market{orders: s.Orders}
	for _, x := range s.Supplies {
		m.batches = append(m.batches, c.of(x))
	}
	return m
}

// in returns an iterator over the orders of a set.
func (m market) in(of set) iter.Seq[api.Order] {
	return func(yield func(api.Order) bool) {
		for i, o := range m.orders {
			if of.has(i) && !yield(o) {
				return
			}
		}
	}
}

// serving returns the batches that can serve at least one order of a set, by the numbers of their supplies.
func (m market) serving(of set) map[int]batch {
	l := map[int]batch{}
	for o := range m.in(of) {
		for i, b := range m.batches {
			if b.canServe(o) {
				l[i] = b
			}
		}
	}
	return l
}

// sum adds a number of each of some things up.
func sum[T any](things iter.Seq[T], number func(T) int) (n int) {
	for x := range things {
		n += number(x)
	}
	return n
}

// missing returns how many pencils a set of orders lacks.
func (m market) missing(of set) int {
	asked := sum(m.in(of), func(o api.Order) int { return o.Many })
	there := sum(maps.Values(m.serving(of)), func(b batch) int { return b.many })
	return max(0, asked-there)
}

// price returns the price of a set of orders.
func (m market) price(of set) int {
	return sum(m.in(of), func(o api.Order) int { return o.Price })
}
