package xray

import (
	"math"
	"slices"
	"testing"

	"pencilworks/api"
)

func span(lo, hi int) api.Span { return api.Span{Lo: lo, Hi: hi} }

// example returns the crate of the chapter's examples, with other numbers of rows and columns that can be bad.
func example(clamps, dies int) api.Crate {
	return api.Crate{Rows: []int{10, 20, 30}, Cols: 4, Clamps: clamps, Dies: dies}
}

// with returns the crate of the examples with a change.
func with(change func(c *api.Crate)) api.Crate {
	c := example(1, 1)
	change(&c)
	return c
}

// even returns a crate all of whose rows are alike.
func even(rows, each, cols, clamps, dies int) api.Crate {
	return api.Crate{Rows: slices.Repeat([]int{each}, rows), Cols: cols, Clamps: clamps, Dies: dies}
}

func isGood(row, col int) api.Look   { return api.Look{Row: row, Col: col, Seen: api.SeenGood} }
func isBad(row, col int) api.Look    { return api.Look{Row: row, Col: col, Seen: api.SeenBad} }
func isHidden(row, col int) api.Look { return api.Look{Row: row, Col: col, Seen: api.SeenNothing} }

// seen returns a list of looks.
func seen(l ...api.Look) []api.Look { return l }

// spots returns places, by a row and a column for each.
func spots(l ...int) (all []api.Spot) {
	for i := 0; i < len(l); i += 2 {
		all = append(all, api.Spot{Row: l[i], Col: l[i+1]})
	}
	return all
}

// diagonal returns the places whose rows and columns are the numbers from 0 to n - 1.
func diagonal(n int) (all []api.Spot) {
	for i := range n {
		all = append(all, api.Spot{Row: i, Col: i})
	}
	return all
}

// P6.1, P6.2: the chapter's examples, looks that say the same, more or less than others, no causes and many; and looks that no truth fits.
func TestCountAndCauses(t *testing.T) {
	first, both := seen(isBad(2, 1)), seen(isBad(2, 1), isGood(2, 0))
	any3x4 := api.Found{CanRows: 7, CanCols: 15}
	never := api.Found{}
	for _, c := range []struct {
		name  string
		c     api.Crate
		l     []api.Look
		want  api.Span
		found api.Found
		e     api.Errno
	}{
		{"example, without looks", example(1, 1), nil, span(0, 150), any3x4, api.OK},
		{"example, with the first one", example(1, 1), first, span(60, 150), any3x4, api.OK},
		{"example, with both", example(1, 1), both, span(60, 120), api.Found{CanRows: 3, CanCols: 2, SureCols: 2}, api.OK},
		{"example, with three", example(1, 1), append(seen(isGood(1, 1)), both...), span(0, 0), never, api.ErrState},
		{"an empty list", example(1, 1), seen(), span(0, 150), any3x4, api.OK},
		{"nothing is seen", example(1, 1), seen(isHidden(0, 0), isHidden(2, 3)), span(0, 150), any3x4, api.OK},
		{"nothing is seen where all is bad", example(1, 1), append(seen(isHidden(2, 1)), both...), span(60, 120), api.Found{CanRows: 3, CanCols: 2, SureCols: 2}, api.OK},
		{"the same is seen twice", example(1, 1), append(first, first...), span(60, 150), any3x4, api.OK},
		{"the same is seen good and bad", example(1, 1), seen(isGood(1, 1), isBad(1, 1)), span(0, 0), never, api.ErrState},

		{"good ones", example(1, 1), seen(isGood(2, 0)), span(0, 120), api.Found{CanRows: 3, CanCols: 14}, api.OK},
		{"a bad row", example(1, 1), seen(isBad(2, 1), isBad(2, 0)), span(120, 150), api.Found{CanRows: 4, CanCols: 15, SureRows: 4}, api.OK},
		{"a bad row and a bad column", example(1, 1), seen(isBad(2, 1), isBad(2, 0), isBad(0, 3)), span(150, 150), api.Found{CanRows: 4, CanCols: 8, SureRows: 4, SureCols: 8}, api.OK},
		{"a bad row or a bad column", example(1, 1), seen(isBad(0, 0), isGood(1, 0)), span(40, 90), api.Found{CanRows: 1, CanCols: 14, SureRows: 1}, api.OK},
		{"two bad ones, apart", example(1, 1), seen(isBad(0, 0), isBad(1, 1)), span(90, 120), api.Found{CanRows: 3, CanCols: 3}, api.OK},
		{"three bad ones, apart", example(1, 1), seen(isBad(0, 0), isBad(1, 1), isBad(2, 2)), span(0, 0), never, api.ErrState},
		{"three bad ones, apart, and more dies", example(1, 2), seen(isBad(0, 0), isBad(1, 1), isBad(2, 2)), span(140, 180), api.Found{CanRows: 7, CanCols: 7}, api.OK},
		{"three bad ones, apart, and more clamps", example(2, 1), seen(isBad(0, 0), isBad(1, 1), isBad(2, 2)), span(150, 210), api.Found{CanRows: 7, CanCols: 7}, api.OK},
		{"all of a row is good", example(1, 1), seen(isGood(0, 0), isGood(0, 1), isGood(0, 2), isGood(0, 3)), span(0, 120), api.Found{CanRows: 6}, api.OK},
		{"all is good", example(1, 1), seen(isGood(0, 0), isGood(0, 1), isGood(1, 2), isGood(2, 3)), span(0, 0), never, api.OK},

		{"no causes", example(0, 0), nil, span(0, 0), never, api.OK},
		{"no causes, and a bad one", example(0, 0), seen(isBad(0, 0)), span(0, 0), never, api.ErrState},
		{"no causes, and good ones", example(0, 0), seen(isGood(0, 0), isHidden(1, 1)), span(0, 0), never, api.OK},
		{"clamps only", example(2, 0), seen(isBad(0, 3), isGood(1, 0)), span(40, 160), api.Found{CanRows: 5, SureRows: 1}, api.OK},
		{"dies only", example(0, 2), seen(isBad(0, 3), isGood(1, 0)), span(60, 120), api.Found{CanCols: 14, SureCols: 8}, api.OK},
		{"clamps only, and too many bad ones", example(2, 0), seen(isBad(0, 3), isBad(1, 0), isBad(2, 0)), span(0, 0), never, api.ErrState},
		{"as many clamps as rows", example(3, 0), nil, span(0, 240), api.Found{CanRows: 7}, api.OK},
		{"more clamps than rows, and more dies than columns", even(2, 5, 2, 3, 3), nil, span(0, 20), api.Found{CanRows: 3, CanCols: 3}, api.OK},
		{"many causes", example(3, 3), nil, span(0, 240), any3x4, api.OK},
		{"many causes, and one good one", example(3, 3), seen(isGood(0, 0)), span(0, 230), api.Found{CanRows: 6, CanCols: 14}, api.OK},
		{"many causes, and one bad one", example(3, 3), seen(isBad(0, 0)), span(40, 240), any3x4, api.OK},

		{"one place", even(1, 1, 1, 1, 1), nil, span(0, 1), api.Found{CanRows: 1, CanCols: 1}, api.OK},
		{"one bad place", even(1, 1, 1, 1, 1), seen(isBad(0, 0)), span(1, 1), api.Found{CanRows: 1, CanCols: 1}, api.OK},
		{"one bad place, and clamps only", even(1, 1, 1, 1, 0), seen(isBad(0, 0)), span(1, 1), api.Found{CanRows: 1, SureRows: 1}, api.OK},
		{"as many as can be", even(8, 1000, 8, 3, 3), nil, span(0, 39000), api.Found{CanRows: 255, CanCols: 255}, api.OK},
		{"as many as can be, and the last one is bad", even(8, 1000, 8, 3, 3), seen(isBad(7, 7)), span(8000, 39000), api.Found{CanRows: 255, CanCols: 255}, api.OK},
		{"as many as can be, and bad ones that only clamps and dies together spoil", even(8, 1000, 8, 3, 3), seen(isBad(0, 0), isBad(1, 1), isBad(2, 2), isBad(3, 3), isBad(4, 4), isBad(5, 5)), span(39000, 39000), api.Found{CanRows: 63, CanCols: 63}, api.OK},
		{"as many as can be, and one bad one more", even(8, 1000, 8, 3, 3), seen(isBad(0, 0), isBad(1, 1), isBad(2, 2), isBad(3, 3), isBad(4, 4), isBad(5, 5), isBad(6, 6)), span(0, 0), never, api.ErrState},
		{"as many looks as can be", example(1, 1), slices.Repeat(first, 40), span(60, 150), any3x4, api.OK},
		{"the last of as many looks as can be", example(1, 1), append(slices.Repeat(first, 39), isGood(2, 0)), span(60, 120), api.Found{CanRows: 3, CanCols: 2, SureCols: 2}, api.OK},
	} {
		if got, e := Count(c.c, c.l); got != c.want || e != c.e {
			t.Errorf("%s: Count = %v, error %d, not %v, error %d", c.name, got, e, c.want, c.e)
		}
		if got, e := Causes(c.c, c.l); got != c.found || e != c.e {
			t.Errorf("%s: Causes = %v, error %d, not %v, error %d", c.name, got, e, c.found, c.e)
		}
	}
}

// P6.3: the chapter's examples, and places that were seen, and were not.
func TestJudge(t *testing.T) {
	both := seen(isBad(2, 1), isGood(2, 0))
	for _, c := range []struct {
		name     string
		c        api.Crate
		l        []api.Look
		row, col int
		want     int
		e        api.Errno
	}{
		{"example, always", example(1, 1), both, 0, 1, api.BadAlways, api.OK},
		{"example, perhaps", example(1, 1), both, 0, 0, api.BadPerhaps, api.OK},
		{"example, never", example(1, 1), both, 2, 3, api.BadNever, api.OK},
		{"what was seen bad", example(1, 1), both, 2, 1, api.BadAlways, api.OK},
		{"what was seen good", example(1, 1), both, 2, 0, api.BadNever, api.OK},
		{"no looks", example(1, 1), nil, 1, 2, api.BadPerhaps, api.OK},
		{"no clear looks", example(1, 1), seen(isHidden(1, 2)), 1, 2, api.BadPerhaps, api.OK},
		{"beside what was seen bad", example(1, 1), both[:1], 2, 0, api.BadPerhaps, api.OK},
		{"beside what was seen good", example(1, 1), both[1:], 2, 1, api.BadPerhaps, api.OK},
		{"neither beside nor above what was seen bad", example(1, 0), both[:1], 0, 0, api.BadNever, api.OK},
		{"beside what was seen bad, and clamps only", example(1, 0), both[:1], 2, 0, api.BadAlways, api.OK},
		{"by a row or by a column, but always", example(1, 1), seen(isBad(0, 0), isBad(1, 1)), 0, 1, api.BadPerhaps, api.OK},
		{"by some row or some column, but always", even(2, 1, 2, 1, 1), seen(isBad(0, 0), isBad(1, 1)), 0, 0, api.BadAlways, api.OK},
		{"no causes", example(0, 0), nil, 0, 0, api.BadNever, api.OK},
		{"the last place", even(8, 1, 8, 3, 3), seen(isBad(7, 0), isBad(7, 1), isBad(7, 2), isBad(7, 3)), 7, 7, api.BadAlways, api.OK},
		{"no truth", example(1, 1), seen(isBad(0, 0), isGood(0, 0)), 0, 0, 0, api.ErrState},
		{"no truth at another place", example(1, 1), seen(isBad(0, 0), isGood(0, 0)), 2, 3, 0, api.ErrState},
	} {
		if got, e := Judge(c.c, c.l, c.row, c.col); got != c.want || e != c.e {
			t.Errorf("%s: Judge = %d, error %d, not %d, error %d", c.name, got, e, c.want, c.e)
		}
	}
}

// P6.4: the chapter's examples, and samples that leave no row, no column, or neither.
func TestMissed(t *testing.T) {
	for _, c := range []struct {
		name   string
		c      api.Crate
		sample []api.Spot
		want   int
	}{
		{"example, nothing", example(1, 1), nil, 150},
		{"example, two places", example(1, 1), spots(1, 1, 2, 0), 90},
		{"the other way round", example(1, 1), spots(2, 0, 1, 1), 90},
		{"one of them twice", example(1, 1), spots(1, 1, 2, 0, 1, 1), 90},
		{"an empty list", example(1, 1), []api.Spot{}, 150},
		{"the heaviest row", example(1, 1), spots(2, 0), 120},
		{"a row that is not the heaviest", example(1, 1), spots(0, 0), 150},
		{"all columns", example(1, 1), spots(0, 0, 0, 1, 0, 2, 0, 3), 120},
		{"all columns of the heaviest row", example(1, 1), spots(2, 0, 2, 1, 2, 2, 2, 3), 80},
		{"all rows", example(1, 1), spots(0, 0, 1, 0, 2, 0), 60},
		{"all rows and columns", example(1, 1), spots(0, 0, 1, 1, 2, 2, 2, 3), 0},
		{"more causes", example(2, 2), spots(2, 0), 180},
		{"as many clamps as rows", example(3, 0), spots(1, 3), 160},
		{"fewer columns than dies", example(0, 3), spots(0, 0, 1, 1), 120},
		{"clamps only, and all rows", example(3, 0), spots(0, 0, 1, 0, 2, 0), 0},
		{"dies only, and all columns", example(0, 3), spots(0, 0, 0, 1, 0, 2, 0, 3), 0},
		{"no causes", example(0, 0), nil, 0},
		{"one place", even(1, 1000, 1, 3, 3), nil, 1000},
		{"one place that is seen", even(1, 1000, 1, 3, 3), spots(0, 0), 0},
		{"as many as can be", even(8, 1000, 8, 3, 3), nil, 39000},
		{"as many as can be, and five places", even(8, 1000, 8, 3, 3), diagonal(5), 39000},
		{"as many as can be, and six places", even(8, 1000, 8, 3, 3), diagonal(6), 28000},
		{"as many as can be, and seven places", even(8, 1000, 8, 3, 3), diagonal(7), 15000},
		{"as many places as can be", example(1, 1), append(slices.Repeat(spots(1, 1), 39), spots(2, 0)...), 90},
	} {
		if got, e := Missed(c.c, c.sample); got != c.want || e != api.OK {
			t.Errorf("%s: Missed = %d, error %d, not %d", c.name, got, e, c.want)
		}
	}
}

// P6.5: the chapter's examples, numbers that just do and just do not, and which of several samples is first.
func TestFewest(t *testing.T) {
	for _, c := range []struct {
		name string
		c    api.Crate
		most int
		want []api.Spot
	}{
		{"example, none", example(1, 1), 150, nil},
		{"example, two places", example(1, 1), 90, spots(1, 0, 2, 0)},
		{"example, four places", example(1, 1), 0, spots(0, 0, 0, 1, 1, 2, 2, 3)},
		{"more than there are", example(1, 1), api.MaxMany, nil},
		{"just too few for none", example(1, 1), 149, spots(2, 0)},
		{"just enough for one", example(1, 1), 120, spots(2, 0)},
		{"just too few for one", example(1, 1), 119, spots(1, 0, 2, 0)},
		{"just enough for two", example(1, 1), 90, spots(1, 0, 2, 0)},
		{"just too few for two", example(1, 1), 89, spots(0, 0, 1, 0, 2, 0)},
		{"just enough for three", example(1, 1), 60, spots(0, 0, 1, 0, 2, 0)},
		{"just too few for three", example(1, 1), 59, spots(0, 0, 0, 1, 1, 2, 2, 3)},
		{"no causes", example(0, 0), 0, nil},
		{"clamps only", example(1, 0), 0, spots(0, 0, 1, 0, 2, 0)},
		{"clamps only, and some may be missed", example(1, 0), 40, spots(1, 0, 2, 0)},
		{"dies only", example(0, 1), 0, spots(0, 0, 0, 1, 0, 2, 0, 3)},
		{"dies only, and as many as one column may be missed", example(0, 1), 60, nil},
		{"two dies, and as many as one column may be missed", example(0, 2), 60, spots(0, 0, 0, 1, 0, 2)},
		{"two causes of each kind", example(2, 2), 140, spots(1, 0, 2, 0)},
		{"two causes of each kind, and just too few for two places", example(2, 2), 139, spots(0, 0, 0, 1, 2, 2)},
		{"two causes of each kind, and just enough without the row 1", example(2, 2), 120, spots(0, 0, 0, 1, 2, 2)},
		{"two causes of each kind, and just too few without the row 1", example(2, 2), 119, spots(0, 0, 1, 1, 2, 2)},
		{"three causes of each kind", example(3, 3), 120, spots(0, 0, 0, 1, 2, 2)},
		{"two light rows are left out, and columns", api.Crate{Rows: []int{1, 9, 1, 9}, Cols: 3, Clamps: 1, Dies: 1}, 22, spots(1, 0, 3, 0)},
		{"two light rows are left out, but no column", api.Crate{Rows: []int{9, 1, 9, 1}, Cols: 3, Clamps: 1, Dies: 1}, 3, spots(0, 0, 0, 1, 2, 2)},
		{"one column", with(func(c *api.Crate) { c.Cols = 1 }), 0, spots(0, 0, 1, 0, 2, 0)},
		{"one row", with(func(c *api.Crate) { c.Rows = c.Rows[:1] }), 0, spots(0, 0, 0, 1, 0, 2, 0, 3)},
		{"one place", even(1, 1, 1, 1, 1), 0, spots(0, 0)},
		{"one place that may be missed", even(1, 1, 1, 1, 1), 1, nil},
		{"as many as can be, and none may be missed", even(8, 1000, 8, 3, 3), 0, diagonal(8)},
		{"as many as can be, and just none must be seen", even(8, 1000, 8, 3, 3), 39000, nil},
		{"as many as can be, and just one must be missed less", even(8, 1000, 8, 3, 3), 38999, spots(0, 0, 0, 1, 0, 2, 0, 3, 0, 4, 0, 5)},
		{"as many as can be, and two rows and a column may be bad", even(8, 1000, 8, 3, 3), 22000, spots(0, 0, 0, 1, 1, 2, 2, 3, 3, 4, 4, 5, 5, 6)},
		{"as many as can be, and just too few for that", even(8, 1000, 8, 3, 3), 21999, diagonal(7)},
		{"as many as can be, and one row may be bad", even(8, 1000, 8, 3, 3), 8000, spots(0, 0, 0, 1, 1, 2, 2, 3, 3, 4, 4, 5, 5, 6, 6, 7)},
	} {
		if got, e := Fewest(c.c, c.most); !slices.Equal(got, c.want) || e != api.OK {
			t.Errorf("%s: Fewest = %v, error %d, not %v", c.name, got, e, c.want)
		}
	}
}

// wrongNumbers returns numbers that are not from one to another one.
func wrongNumbers(least, most int) []int {
	return []int{least - 1, most + 1, math.MinInt, math.MaxInt}
}

// wrongCrates returns crates that are not valid.
func wrongCrates() []api.Crate {
	l := []api.Crate{{}, with(func(c *api.Crate) { c.Rows = nil }), with(func(c *api.Crate) { c.Rows = []int{} }), even(9, 1, 4, 1, 1), even(100, 1, 4, 1, 1)}
	for i := range example(1, 1).Rows {
		for _, n := range wrongNumbers(1, api.MaxLie) {
			l = append(l, with(func(c *api.Crate) { c.Rows[i] = n }))
		}
	}
	for _, n := range wrongNumbers(1, api.MaxCols) {
		l = append(l, with(func(c *api.Crate) { c.Cols = n }))
	}
	for _, n := range wrongNumbers(0, api.MaxCauses) {
		l = append(l, example(n, 1), example(1, n))
	}
	return l
}

// wrongPlaces returns places that the crate of the examples does not have.
func wrongPlaces() (l []api.Spot) {
	for _, n := range wrongNumbers(0, 2) {
		l = append(l, api.Spot{Row: n})
	}
	for _, n := range wrongNumbers(0, 3) {
		l = append(l, api.Spot{Col: n})
	}
	return l
}

// wrongLooks returns looks of the crate of the examples that are not valid.
func wrongLooks() (l []api.Look) {
	for _, s := range wrongPlaces() {
		l = append(l, isGood(s.Row, s.Col), isBad(s.Row, s.Col), isHidden(s.Row, s.Col))
	}
	for _, n := range wrongNumbers(api.SeenGood, api.SeenNothing) {
		l = append(l, api.Look{Seen: n})
	}
	return l
}

// expectLooks checks that the functions that take looks return an error, and nothing else.
func expectLooks(t *testing.T, want api.Errno, c api.Crate, l []api.Look, at api.Spot) {
	t.Helper()
	if s, e := Count(c, l); e != want || s != (api.Span{}) {
		t.Errorf("Count(%v, %v) = %v, error %d", c, l, s, e)
	}
	if f, e := Causes(c, l); e != want || f != (api.Found{}) {
		t.Errorf("Causes(%v, %v) = %v, error %d", c, l, f, e)
	}
	expectJudge(t, want, c, l, at)
}

// expectJudge checks that Judge returns an error, and nothing else.
func expectJudge(t *testing.T, want api.Errno, c api.Crate, l []api.Look, at api.Spot) {
	t.Helper()
	if n, e := Judge(c, l, at.Row, at.Col); e != want || n != 0 {
		t.Errorf("Judge(%v, %v, %v) = %d, error %d", c, l, at, n, e)
	}
}

// expectMissed checks that Missed returns an error, and nothing else.
func expectMissed(t *testing.T, want api.Errno, c api.Crate, l []api.Spot) {
	t.Helper()
	if n, e := Missed(c, l); e != want || n != 0 {
		t.Errorf("Missed(%v, %v) = %d, error %d", c, l, n, e)
	}
}

// expectFewest checks that Fewest returns an error, and nothing else.
func expectFewest(t *testing.T, want api.Errno, c api.Crate, most int) {
	t.Helper()
	if l, e := Fewest(c, most); e != want || len(l) != 0 {
		t.Errorf("Fewest(%v, %d) = %v, error %d", c, most, l, e)
	}
}

// R1: ErrArg for the crate comes before all other errors.
func TestWrongCrates(t *testing.T) {
	for _, c := range wrongCrates() {
		for _, at := range append(wrongPlaces(), api.Spot{}) {
			for _, l := range [][]api.Look{nil, seen(isGood(0, 0)), seen(isGood(0, 0), isBad(0, 0)), wrongLooks(), make([]api.Look, 41)} {
				expectLooks(t, api.ErrArg, c, l, at)
			}
		}
		for _, l := range [][]api.Spot{nil, spots(0, 0), wrongPlaces(), make([]api.Spot, 41)} {
			expectMissed(t, api.ErrArg, c, l)
		}
		for _, most := range append(wrongNumbers(0, api.MaxMany), 0, 90) {
			expectFewest(t, api.ErrArg, c, most)
		}
	}
}

// R1: ErrLong for too many looks or places comes before what they are, and before the place.
func TestTooMany(t *testing.T) {
	c := example(1, 1)
	for _, many := range []int{41, 1000} {
		for _, l := range append(wrongLooks(), isGood(0, 0), isBad(0, 0), isHidden(0, 0)) {
			for _, at := range append(wrongPlaces(), api.Spot{}) {
				expectLooks(t, api.ErrLong, c, slices.Repeat(seen(l), many), at)
				expectLooks(t, api.ErrLong, c, append(slices.Repeat(seen(isBad(0, 0)), many), isGood(0, 0), l), at)
			}
		}
		for _, s := range append(wrongPlaces(), api.Spot{}) {
			expectMissed(t, api.ErrLong, c, slices.Repeat([]api.Spot{s}, many))
		}
	}
}

// R1: ErrRange for each other argument comes before ErrState.
func TestRanges(t *testing.T) {
	c := example(1, 1)
	none := seen(isBad(0, 0), isGood(0, 0))
	for _, l := range wrongLooks() {
		expectLooks(t, api.ErrRange, c, seen(l), api.Spot{})
		expectLooks(t, api.ErrRange, c, seen(isBad(0, 0), l), api.Spot{Row: 9})
		expectLooks(t, api.ErrRange, c, append(slices.Repeat(none, 19), l, l), api.Spot{})
	}
	for _, s := range wrongPlaces() {
		for _, l := range [][]api.Look{nil, seen(isBad(0, 0)), none} {
			expectJudge(t, api.ErrRange, c, l, s)
		}
		expectMissed(t, api.ErrRange, c, []api.Spot{s})
		expectMissed(t, api.ErrRange, c, append(make([]api.Spot, 39), s))
	}
	for _, most := range wrongNumbers(0, api.MaxMany) {
		expectFewest(t, api.ErrRange, c, most)
	}
	expectLooks(t, api.ErrState, c, none, api.Spot{})
}

// P6.1 to P6.5: crates, looks and numbers at all their ends are valid.
func TestEnds(t *testing.T) {
	for _, c := range []api.Crate{even(1, 1, 1, 0, 0), even(8, 1, 1, 3, 0), even(1, api.MaxLie, 8, 0, 3), even(8, api.MaxLie, 8, 3, 3)} {
		last := api.Spot{Row: len(c.Rows) - 1, Col: c.Cols - 1}
		for _, s := range []api.Spot{{}, last} {
			for _, l := range [][]api.Look{nil, slices.Repeat(seen(isGood(s.Row, s.Col)), 40), slices.Repeat(seen(isHidden(s.Row, s.Col)), 40)} {
				if _, e := Count(c, l); e != api.OK {
					t.Errorf("Count(%v, %v): error %d", c, l, e)
				}
				if _, e := Causes(c, l); e != api.OK {
					t.Errorf("Causes(%v, %v): error %d", c, l, e)
				}
				if _, e := Judge(c, l, last.Row, last.Col); e != api.OK {
					t.Errorf("Judge(%v, %v, %v): error %d", c, l, last, e)
				}
			}
			if _, e := Missed(c, slices.Repeat([]api.Spot{s}, 40)); e != api.OK {
				t.Errorf("Missed(%v, 40 times %v): error %d", c, s, e)
			}
		}
		for _, most := range []int{0, api.MaxMany} {
			if _, e := Fewest(c, most); e != api.OK {
				t.Errorf("Fewest(%v, %d): error %d", c, most, e)
			}
		}
	}
}

// R4: no argument is changed, and a result is new memory.
func TestMemory(t *testing.T) {
	c := example(1, 1)
	l := seen(isGood(2, 0), isHidden(0, 0), isBad(2, 1))
	sample := spots(2, 0, 1, 1, 2, 0)
	Count(c, l)
	Causes(c, l)
	Judge(c, l, 0, 0)
	Missed(c, sample)
	chosen, _ := Fewest(c, 0)
	if !slices.Equal(c.Rows, []int{10, 20, 30}) || !slices.Equal(l, seen(isGood(2, 0), isHidden(0, 0), isBad(2, 1))) || !slices.Equal(sample, spots(2, 0, 1, 1, 2, 0)) {
		t.Errorf("arguments are changed: %v, %v, %v", c, l, sample)
	}
	chosen[0].Row = 7
	if again, _ := Fewest(c, 0); again[0].Row != 0 {
		t.Errorf("Fewest shares memory: %v", again)
	}
}
