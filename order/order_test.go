package order

import (
	"math"
	"slices"
	"testing"

	"pencilworks/api"
)

func span(lo, hi int) api.Span { return api.Span{Lo: lo, Hi: hi} }

// supply returns a supply of some shades, of which there are from least to most pencils, which are ready from one hour to another one.
func supply(shades, least, most, early, late int) api.Supply {
	return api.Supply{Shades: shades, Many: span(least, most), Ready: span(early, late)}
}

// batchOf returns a supply of which all is known, and which is ready at the hour 0.
func batchOf(shades, many int) api.Supply { return supply(shades, many, many, 0, 0) }

func ordered(shade, many, due, price int) api.Order {
	return api.Order{Shade: shade, Many: many, Due: due, Price: price}
}

// wish returns an order with no hurry and no price.
func wish(shade, many int) api.Order { return ordered(shade, many, api.MaxHour, 0) }

func supplies(l ...api.Supply) []api.Supply { return l }

func orders(l ...api.Order) []api.Order { return l }

func saleOf(s []api.Supply, o []api.Order) api.Sale { return api.Sale{Supplies: s, Orders: o} }

// sale returns the sale of the chapter's examples.
func sale() api.Sale {
	return api.Sale{
		Supplies: supplies(supply(6, 100, 120, 10, 12), supply(4, 50, 50, 20, 30), supply(3, 80, 90, 5, 5)),
		Orders:   orders(ordered(1, 120, 15, 300), ordered(2, 60, 40, 200), ordered(0, 40, 10, 90)),
	}
}

// asking returns the sale of the examples with as many pencils for the order 0.
func asking(many int) api.Sale {
	s := sale()
	s.Orders[0].Many = many
	return s
}

// until returns the sale of the examples with the order 0 due at an hour.
func until(hour int) api.Sale {
	s := sale()
	s.Orders[0].Due = hour
	return s
}

func sameRows(a, b [][]int) bool {
	return slices.EqualFunc(a, b, func(x, y []int) bool { return slices.Equal(x, y) })
}

// P10.1: the chapter's examples; numbers and hours at which one result becomes another one; orders of nothing, and those that want the same pencils.
func TestMeets(t *testing.T) {
	for _, c := range []struct {
		name string
		s    api.Sale
		want int
	}{
		{"example", sale(), api.MetAlways},
		{"example with 150", asking(150), api.MetPerhaps},
		{"example with 220", asking(220), api.MetNever},
		{"as many as there surely are", asking(130), api.MetAlways},
		{"one more", asking(131), api.MetPerhaps},
		{"as many as there can be", asking(160), api.MetPerhaps},
		{"one more than there can be", asking(161), api.MetNever},
		{"due when all is ready", until(12), api.MetAlways},
		{"due an hour earlier", until(11), api.MetPerhaps},
		{"due when all can be ready", until(10), api.MetPerhaps},
		{"due before all can be ready", until(9), api.MetNever},
		{"no orders", api.Sale{Supplies: sale().Supplies}, api.MetAlways},
		{"no supplies", api.Sale{Orders: sale().Orders}, api.MetNever},
		{"neither", api.Sale{}, api.MetAlways},
		{"orders of nothing", api.Sale{Orders: orders(wish(0, 0), ordered(7, 0, 0, 5))}, api.MetAlways},
		{"an order of nothing, and one of something", api.Sale{Orders: orders(wish(0, 0), wish(1, 1))}, api.MetNever},
		{"another shade", saleOf(supplies(batchOf(253, 9)), orders(wish(1, 1))), api.MetNever},
		{"no shade", saleOf(supplies(batchOf(0, 9)), orders(wish(0, 1))), api.MetNever},
		{"the last shade", saleOf(supplies(batchOf(128, 9)), orders(wish(7, 9))), api.MetAlways},
		{"two orders of one supply", saleOf(supplies(batchOf(3, 9)), orders(wish(0, 4), wish(1, 5))), api.MetAlways},
		{"each alone, but not both", saleOf(supplies(batchOf(3, 9)), orders(wish(0, 5), wish(1, 5))), api.MetNever},
		{"each alone surely, both perhaps", saleOf(supplies(supply(3, 9, 10, 0, 0)), orders(wish(0, 5), wish(1, 5))), api.MetPerhaps},
		{"two orders of one shade", saleOf(supplies(batchOf(1, 9)), orders(wish(0, 5), wish(0, 5))), api.MetNever},
		{"one order of two supplies", saleOf(supplies(batchOf(3, 4), batchOf(1, 5)), orders(wish(0, 9))), api.MetAlways},
		{"enough together, but not of each shade", saleOf(supplies(batchOf(1, 9), batchOf(2, 3)), orders(wish(0, 4), wish(1, 4))), api.MetNever},
		{"only one way to share", saleOf(supplies(batchOf(3, 5), batchOf(6, 5), batchOf(4, 5)), orders(wish(0, 5), wish(1, 5), wish(2, 5))), api.MetAlways},
		{"only many and early", saleOf(supplies(supply(1, 3, 5, 2, 4)), orders(ordered(0, 5, 2, 0))), api.MetPerhaps},
		{"only many, but never so early", saleOf(supplies(supply(1, 3, 5, 2, 4)), orders(ordered(0, 5, 1, 0))), api.MetNever},
		{"only early, but never so many", saleOf(supplies(supply(1, 3, 5, 2, 4)), orders(ordered(0, 6, 2, 0))), api.MetNever},
		{"as few and as late as can be", saleOf(supplies(supply(1, 3, 5, 2, 4)), orders(ordered(0, 3, 4, 0))), api.MetAlways},
		{"perhaps none", saleOf(supplies(supply(1, 0, 1, 0, 0)), orders(wish(0, 1))), api.MetPerhaps},
		{"what comes late is for what is due late", saleOf(supplies(supply(1, 5, 5, 9, 9), batchOf(1, 5)), orders(ordered(0, 5, 9, 0), ordered(0, 5, 8, 0))), api.MetAlways},
		{"both come late", saleOf(supplies(supply(1, 5, 5, 9, 9), supply(1, 5, 5, 9, 9)), orders(ordered(0, 5, 9, 0), ordered(0, 5, 8, 0))), api.MetNever},
		{"the last hour", saleOf(supplies(supply(1, 5, 5, 0, 1<<20)), orders(ordered(0, 5, 1<<20, 0))), api.MetAlways},
		{"the last hour is too late", saleOf(supplies(supply(1, 5, 5, 0, 1<<20)), orders(ordered(0, 5, 1<<20-1, 0))), api.MetPerhaps},
		{"the first hour", saleOf(supplies(batchOf(1, 5)), orders(ordered(0, 5, 0, 0))), api.MetAlways},
		{"the most of all", saleOf(slices.Repeat(supplies(batchOf(255, 1<<20)), 8), slices.Repeat(orders(wish(7, 1<<20)), 8)), api.MetAlways},
		{"the most of all less one", saleOf(append(slices.Repeat(supplies(batchOf(255, 1<<20)), 7), batchOf(255, 1<<20-1)), slices.Repeat(orders(wish(7, 1<<20)), 8)), api.MetNever},
	} {
		if n, e := Meets(c.s); n != c.want || e != api.OK {
			t.Errorf("%s: Meets = %d, error %d, not %d", c.name, n, e, c.want)
		}
	}
}

// P10.2: the chapter's examples; which set lacks most, without the orders that lack nothing; only the worst case is looked at.
func TestLack(t *testing.T) {
	for _, c := range []struct {
		name         string
		s            api.Sale
		set, missing int
		e            api.Errno
	}{
		{"example", sale(), 0, 0, api.ErrNone},
		{"example with 150", asking(150), 7, 20, api.OK},
		{"example with 220", asking(220), 7, 90, api.OK},
		{"just not enough", asking(131), 7, 1, api.OK},
		{"due an hour too early", until(11), 5, 80, api.OK},
		{"of nothing that serves it", until(4), 1, 120, api.OK},
		{"no orders", api.Sale{Supplies: sale().Supplies}, 0, 0, api.ErrNone},
		{"no supplies", api.Sale{Orders: sale().Orders}, 7, 220, api.OK},
		{"neither", api.Sale{}, 0, 0, api.ErrNone},
		{"orders of nothing", api.Sale{Orders: orders(wish(0, 0), wish(1, 0))}, 0, 0, api.ErrNone},
		{"without those that ask for nothing", api.Sale{Orders: orders(wish(0, 0), wish(1, 3), wish(2, 0), wish(3, 4))}, 10, 7, api.OK},
		{"without one that has just enough", saleOf(supplies(batchOf(1, 5), batchOf(2, 5)), orders(wish(0, 5), wish(1, 7))), 2, 2, api.OK},
		{"without one that has more than enough", saleOf(supplies(batchOf(1, 9), batchOf(2, 5)), orders(wish(0, 5), wish(1, 7))), 2, 2, api.OK},
		{"the first one of two", saleOf(supplies(batchOf(1, 5), batchOf(2, 7)), orders(wish(0, 7), wish(1, 7))), 1, 2, api.OK},
		{"both, each for itself", saleOf(supplies(batchOf(1, 5), batchOf(2, 6)), orders(wish(0, 7), wish(1, 7))), 3, 3, api.OK},
		{"both together, and neither alone", saleOf(supplies(batchOf(3, 13)), orders(wish(0, 7), wish(1, 7))), 3, 1, api.OK},
		{"not the least number of those that lack", saleOf(supplies(batchOf(1, 6), batchOf(6, 8)), orders(wish(0, 6), wish(1, 5), wish(2, 5))), 6, 2, api.OK},
		{"a set with a gap", saleOf(supplies(batchOf(5, 9), batchOf(2, 9)), orders(wish(0, 5), wish(1, 5), wish(2, 5))), 5, 1, api.OK},
		{"with one that brings fewer pencils than it asks for", saleOf(supplies(batchOf(3, 5), batchOf(2, 3)), orders(wish(0, 6), wish(1, 4))), 3, 2, api.OK},
		{"without one that brings more", saleOf(supplies(batchOf(3, 5), batchOf(2, 6)), orders(wish(0, 6), wish(1, 4))), 1, 1, api.OK},
		{"without one that brings as many", saleOf(supplies(batchOf(3, 5), batchOf(2, 4)), orders(wish(0, 6), wish(1, 4))), 1, 1, api.OK},
		{"one supply counts once", saleOf(supplies(batchOf(3, 5)), orders(wish(0, 4), wish(1, 4), wish(0, 4))), 7, 7, api.OK},
		{"as few as can be", saleOf(supplies(supply(1, 3, 9, 0, 0)), orders(wish(0, 5))), 1, 2, api.OK},
		{"as late as can be", saleOf(supplies(supply(1, 9, 9, 3, 7)), orders(ordered(0, 5, 6, 0), ordered(0, 2, 7, 0))), 1, 5, api.OK},
		{"just not too late", saleOf(supplies(supply(1, 9, 9, 3, 7)), orders(ordered(0, 5, 7, 0))), 0, 0, api.ErrNone},
		{"a supply that serves one of a set for its hour", saleOf(supplies(supply(1, 9, 9, 7, 7)), orders(ordered(0, 5, 6, 0), ordered(0, 12, 7, 0))), 3, 8, api.OK},
		{"the last order", saleOf(supplies(batchOf(1, 7)), append(slices.Repeat(orders(wish(0, 1)), 7), wish(7, 1))), 128, 1, api.OK},
		{"the most that can lack", api.Sale{Orders: slices.Repeat(orders(wish(7, 1<<20)), 8)}, 255, 1 << 23, api.OK},
		{"the most but one supply", saleOf(supplies(batchOf(128, 1<<20)), slices.Repeat(orders(wish(7, 1<<20)), 8)), 255, 7 << 20, api.OK},
	} {
		if set, n, e := Lack(c.s); set != c.set || n != c.missing || e != c.e {
			t.Errorf("%s: Lack = %d, %d, error %d, not %d, %d, error %d", c.name, set, n, e, c.set, c.missing, c.e)
		}
	}
}

// P10.3: the chapter's examples; as many as can be are given in all, and the first numbers are as great as this allows.
func TestShare(t *testing.T) {
	for _, c := range []struct {
		name string
		s    api.Sale
		want [][]int
	}{
		{"example", sale(), [][]int{{90, 10, 0}, {0, 50, 0}, {30, 0, 40}}},
		{"example with 150", asking(150), [][]int{{100, 0, 0}, {0, 50, 0}, {50, 0, 30}}},
		{"more than is asked for", asking(50), [][]int{{50, 50, 0}, {0, 10, 0}, {0, 0, 40}}},
		{"too late in the worst case", until(11), [][]int{{0, 60, 0}, {0, 0, 0}, {80, 0, 0}}},
		{"no orders", api.Sale{Supplies: sale().Supplies}, [][]int{{}, {}, {}}},
		{"no supplies", api.Sale{Orders: sale().Orders}, nil},
		{"neither", api.Sale{}, nil},
		{"orders of nothing", saleOf(supplies(batchOf(3, 5)), orders(wish(0, 0), wish(1, 0))), [][]int{{0, 0}}},
		{"supplies of nothing", saleOf(supplies(batchOf(3, 0), supply(3, 0, 9, 0, 0)), orders(wish(0, 5), wish(1, 5))), [][]int{{0, 0}, {0, 0}}},
		{"another shade", saleOf(supplies(batchOf(2, 5)), orders(wish(0, 5), wish(1, 3))), [][]int{{0, 3}}},
		{"as few as can be", saleOf(supplies(supply(1, 3, 9, 0, 0)), orders(wish(0, 5))), [][]int{{3}}},
		{"just not too late", saleOf(supplies(supply(1, 3, 9, 0, 7)), orders(ordered(0, 5, 7, 0))), [][]int{{3}}},
		{"just too late", saleOf(supplies(supply(1, 3, 9, 0, 7)), orders(ordered(0, 5, 6, 0))), [][]int{{0}}},
		{"all of one to the first order", saleOf(supplies(batchOf(3, 5)), orders(wish(0, 9), wish(1, 9))), [][]int{{5, 0}}},
		{"the first of two that give the same", saleOf(supplies(batchOf(3, 5), batchOf(3, 5)), orders(wish(0, 4), wish(1, 3))), [][]int{{4, 1}, {0, 2}}},
		{"the first order first, also where both are served", saleOf(supplies(batchOf(3, 5), batchOf(3, 5)), orders(wish(0, 7), wish(1, 3))), [][]int{{5, 0}, {2, 3}}},
		{"what only the first supply can give", saleOf(supplies(batchOf(3, 10), batchOf(1, 4)), orders(wish(0, 8), wish(1, 5))), [][]int{{5, 5}, {3, 0}}},
		{"less to the first order, so that more is given", saleOf(supplies(batchOf(3, 5), batchOf(1, 5)), orders(wish(0, 5), wish(1, 5))), [][]int{{0, 5}, {5, 0}}},
		{"along a chain of orders", saleOf(supplies(batchOf(7, 5), batchOf(3, 5), batchOf(1, 5)), orders(wish(0, 5), wish(1, 5), wish(2, 5))), [][]int{{0, 0, 5}, {0, 5, 0}, {5, 0, 0}}},
		{"an order loses what another one gets", saleOf(supplies(batchOf(2, 3), batchOf(3, 3)), orders(wish(0, 3), wish(1, 6))), [][]int{{0, 3}, {3, 0}}},
		{"a supply keeps what another one gives", saleOf(supplies(batchOf(1, 2), batchOf(3, 4)), orders(wish(0, 4), wish(1, 2))), [][]int{{2, 0}, {2, 2}}},
		{"for its hour the first one is left to the later order", saleOf(supplies(supply(1, 5, 5, 9, 9), batchOf(1, 5)), orders(ordered(0, 4, 8, 0), ordered(0, 6, 9, 0))), [][]int{{0, 5}, {4, 1}}},
		{"the most pencils", saleOf(supplies(batchOf(255, 1<<20), batchOf(128, 1<<20)), orders(wish(7, 1<<20), wish(3, 1<<20))), [][]int{{0, 1 << 20}, {1 << 20, 0}}},
		{"eight of each", saleOf(slices.Repeat(supplies(batchOf(255, 2)), 8), slices.Repeat(orders(wish(3, 2)), 8)), stairs(8, 2)},
	} {
		if l, e := Share(c.s); !sameRows(l, c.want) || e != api.OK {
			t.Errorf("%s: Share = %v, error %d, not %v", c.name, l, e, c.want)
		}
	}
}

// stairs returns so many rows in each of which one number is n: the first one in the first row, and so on.
func stairs(rows, n int) [][]int {
	l := make([][]int, rows)
	for i := range l {
		l[i] = make([]int, rows)
		l[i][i] = n
	}
	return l
}

// P10.4: the chapter's examples; prices, not numbers of orders or of pencils; of several sets the least number; only the worst case is looked at.
func TestAccept(t *testing.T) {
	two := supplies(batchOf(1, 10))
	for _, c := range []struct {
		name       string
		s          api.Sale
		set, price int
	}{
		{"example", sale(), 7, 590},
		{"example with 150", asking(150), 3, 500},
		{"more than there surely is", asking(220), 6, 290},
		{"due an hour too early", until(11), 6, 290},
		{"no orders", api.Sale{Supplies: sale().Supplies}, 0, 0},
		{"no supplies", api.Sale{Orders: sale().Orders}, 0, 0},
		{"neither", api.Sale{}, 0, 0},
		{"nothing for a price", api.Sale{Orders: orders(ordered(3, 0, 0, 5))}, 1, 5},
		{"nothing for nothing", api.Sale{Orders: orders(ordered(0, 0, 0, 0), ordered(0, 0, 0, 5), ordered(0, 0, 0, 0))}, 2, 5},
		{"without a price", saleOf(two, orders(wish(0, 3), ordered(0, 3, 5, 7), wish(0, 3))), 2, 7},
		{"no prices at all", saleOf(two, orders(wish(0, 3), wish(0, 3))), 0, 0},
		{"one dear order before two cheap ones", saleOf(two, orders(ordered(0, 5, 5, 3), ordered(0, 5, 5, 4), ordered(0, 9, 5, 8))), 4, 8},
		{"two cheap orders before one", saleOf(two, orders(ordered(0, 9, 5, 6), ordered(0, 5, 5, 3), ordered(0, 5, 5, 4))), 6, 7},
		{"the first of two equal ones", saleOf(two, orders(ordered(0, 9, 5, 6), ordered(0, 8, 5, 6))), 1, 6},
		{"the least number has more orders", saleOf(two, orders(ordered(0, 5, 5, 3), ordered(0, 5, 5, 4), ordered(0, 9, 5, 7))), 3, 7},
		{"the least number has not the first order", saleOf(two, orders(ordered(0, 4, 5, 1), ordered(0, 5, 5, 3), ordered(0, 5, 5, 3), ordered(0, 6, 5, 5))), 6, 6},
		{"just enough", saleOf(two, orders(ordered(0, 4, 5, 1), ordered(0, 6, 5, 1))), 3, 2},
		{"just not enough", saleOf(two, orders(ordered(0, 5, 5, 1), ordered(0, 6, 5, 1))), 1, 1},
		{"as few as can be", saleOf(supplies(supply(1, 4, 9, 0, 0)), orders(ordered(0, 5, 5, 9), ordered(0, 4, 5, 1))), 2, 1},
		{"as late as can be", saleOf(supplies(supply(1, 9, 9, 0, 5)), orders(ordered(0, 5, 4, 9), ordered(0, 4, 5, 1))), 2, 1},
		{"each two, but not all three", saleOf(supplies(batchOf(3, 5), batchOf(6, 5)), orders(ordered(0, 5, 5, 5), ordered(1, 5, 5, 4), ordered(2, 5, 5, 5))), 5, 10},
		{"all but one that lacks", saleOf(supplies(batchOf(3, 10)), orders(ordered(0, 5, 5, 5), ordered(2, 1, 5, 9), ordered(1, 5, 5, 5))), 5, 10},
		{"the greatest price", saleOf(slices.Repeat(two, 8), slices.Repeat(orders(ordered(0, 10, 0, 1_000_000)), 8)), 255, 8_000_000},
	} {
		if set, n, e := Accept(c.s); set != c.set || n != c.price || e != api.OK {
			t.Errorf("%s: Accept = %d, %d, error %d, not %d, %d", c.name, set, n, e, c.set, c.price)
		}
	}
}

// expectErrArg expects that all functions return ErrArg, and nothing else.
func expectErrArg(t *testing.T, name string, s api.Sale) {
	t.Helper()
	if n, e := Meets(s); n != 0 || e != api.ErrArg {
		t.Errorf("%s: Meets = %d, error %d", name, n, e)
	}
	if set, n, e := Lack(s); set != 0 || n != 0 || e != api.ErrArg {
		t.Errorf("%s: Lack = %d, %d, error %d", name, set, n, e)
	}
	if l, e := Share(s); len(l) != 0 || e != api.ErrArg {
		t.Errorf("%s: Share = %v, error %d", name, l, e)
	}
	if set, n, e := Accept(s); set != 0 || n != 0 || e != api.ErrArg {
		t.Errorf("%s: Accept = %d, %d, error %d", name, set, n, e)
	}
}

// expectValid expects that no function returns ErrArg.
func expectValid(t *testing.T, name string, s api.Sale) {
	t.Helper()
	_, meets := Meets(s)
	_, _, lack := Lack(s)
	_, share := Share(s)
	_, _, accept := Accept(s)
	if slices.Contains([]api.Errno{meets, lack, share, accept}, api.ErrArg) {
		t.Errorf("%s: ErrArg", name)
	}
}

// P10.1 to P10.4, R1: all functions return ErrArg for a sale that is not valid, whichever supply or order is the wrong one; both ends of what is valid are.
func TestErrArg(t *testing.T) {
	bad := func(least, most int) []int { return []int{least - 1, most + 1, math.MinInt, math.MaxInt} }
	for i := range 3 {
		for _, f := range []struct {
			name string
			most int
			set  func(s *api.Sale, n int)
		}{
			{"Shades", 255, func(s *api.Sale, n int) { s.Supplies[i].Shades = n }},
			{"Many of a supply", 1 << 20, func(s *api.Sale, n int) { s.Supplies[i].Many = span(n, n) }},
			{"Ready", 1 << 20, func(s *api.Sale, n int) { s.Supplies[i].Ready = span(n, n) }},
			{"Shade", 7, func(s *api.Sale, n int) { s.Orders[i].Shade = n }},
			{"Many of an order", 1 << 20, func(s *api.Sale, n int) { s.Orders[i].Many = n }},
			{"Due", 1 << 20, func(s *api.Sale, n int) { s.Orders[i].Due = n }},
			{"Price", 1_000_000, func(s *api.Sale, n int) { s.Orders[i].Price = n }},
		} {
			for _, n := range bad(0, f.most) {
				s := sale()
				f.set(&s, n)
				expectErrArg(t, f.name, s)
			}
			for _, n := range []int{0, f.most} {
				s := sale()
				f.set(&s, n)
				expectValid(t, f.name, s)
			}
		}
		for _, x := range []api.Span{span(1, 0), span(-1, 5), span(5, 1<<20+1), span(1<<20, 0), span(math.MinInt, math.MaxInt), span(math.MaxInt, math.MinInt)} {
			s := sale()
			s.Supplies[i].Many = x
			expectErrArg(t, "Many of a supply", s)
			s = sale()
			s.Supplies[i].Ready = x
			expectErrArg(t, "Ready", s)
		}
	}
}

// P10.1 to P10.4, R7: eight supplies and eight orders are valid, and nine are not; what there is none of does not make the other one valid.
func TestHowMany(t *testing.T) {
	s := sale()
	eight := saleOf(slices.Repeat(s.Supplies[:1], 8), slices.Repeat(s.Orders[:1], 8))
	expectValid(t, "eight of each", eight)
	expectErrArg(t, "nine supplies", saleOf(slices.Repeat(s.Supplies[:1], 9), s.Orders))
	expectErrArg(t, "nine supplies and no orders", api.Sale{Supplies: slices.Repeat(s.Supplies[:1], 9)})
	expectErrArg(t, "nine orders", saleOf(s.Supplies, slices.Repeat(s.Orders[:1], 9)))
	expectErrArg(t, "nine orders and no supplies", api.Sale{Orders: slices.Repeat(s.Orders[:1], 9)})
	expectErrArg(t, "nine orders of nothing", api.Sale{Orders: make([]api.Order, 9)})
	expectErrArg(t, "far too many", saleOf(make([]api.Supply, 1000), make([]api.Order, 1000)))
	expectErrArg(t, "a wrong supply and no orders", api.Sale{Supplies: supplies(batchOf(-1, 0))})
	expectErrArg(t, "a wrong order and no supplies", api.Sale{Orders: orders(wish(8, 0))})
	expectErrArg(t, "a wrong order that lacks nothing", saleOf(s.Supplies, orders(wish(0, 0), wish(1, -1))))
}

// R4: no argument is changed, and results are new memory, each row of them.
func TestMemory(t *testing.T) {
	s := asking(150)
	Meets(s)
	Lack(s)
	Accept(s)
	rows, _ := Share(s)
	same := func() bool {
		want := asking(150)
		return slices.Equal(s.Supplies, want.Supplies) && slices.Equal(s.Orders, want.Orders)
	}
	if !same() {
		t.Errorf("arguments are changed: %v", s)
	}
	want := [][]int{{100, 0, 0}, {0, 50, 0}, {50, 0, 30}}
	for i, row := range rows {
		if !slices.Equal(row, want[i]) {
			t.Errorf("the row %d shares memory with another one: %v", i, rows)
		}
		for j := range row {
			row[j] = 77
		}
		_ = append(row, 77, 77, 77)
	}
	if again, _ := Share(s); !sameRows(again, want) || !same() {
		t.Errorf("a result shares memory: %v, %v", again, s)
	}
}

// R3: nil lists and empty ones are the same.
func TestNil(t *testing.T) {
	for _, none := range []api.Sale{{}, {Supplies: supplies(), Orders: orders()}, {Supplies: []api.Supply{}}, {Orders: []api.Order{}}} {
		for _, s := range []api.Sale{none, saleOf(none.Supplies, orders(wish(0, 3))), saleOf(supplies(batchOf(1, 3)), none.Orders)} {
			meets, lack, missing := api.MetAlways, api.ErrNone, 0
			if len(s.Orders) > 0 {
				meets, lack, missing = api.MetNever, api.OK, 3
			}
			if n, e := Meets(s); n != meets || e != api.OK {
				t.Errorf("Meets(%v) = %d, error %d", s, n, e)
			}
			if _, n, e := Lack(s); n != missing || e != lack {
				t.Errorf("Lack(%v) = %d, error %d", s, n, e)
			}
			if l, e := Share(s); len(l) != len(s.Supplies) || e != api.OK {
				t.Errorf("Share(%v) = %v, error %d", s, l, e)
			}
			if set, n, e := Accept(s); set != 0 || n != 0 || e != api.OK {
				t.Errorf("Accept(%v) = %d, %d, error %d", s, set, n, e)
			}
		}
	}
}
