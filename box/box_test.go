package box

import (
	"math"
	"slices"
	"testing"

	"pencilworks/api"
)

func span(lo, hi int) api.Span { return api.Span{Lo: lo, Hi: hi} }

// need returns what a box of the chapter's examples needs.
func need() []int { return []int{2, 1, 1} }

// piles returns the piles of the examples.
func piles() []api.Pile { return pilesOf(3, 10, 6, 6, 4, 3) }

// pilesOf returns piles, by a set of shades and a number of pencils for each.
func pilesOf(l ...int) (all []api.Pile) {
	for i := 0; i < len(l); i += 2 {
		all = append(all, api.Pile{Shades: l[i], Many: l[i+1]})
	}
	return all
}

// equal returns a list in which a number comes so many times.
func equal(n, times int) []int { return slices.Repeat([]int{n}, times) }

func sameRows(a, b [][]int) bool {
	return slices.EqualFunc(a, b, func(x, y []int) bool { return slices.Equal(x, y) })
}

// P9.1: the chapter's example; which set is short, and which of several; what has no pencils, and what needs none.
func TestMost(t *testing.T) {
	for _, c := range []struct {
		name         string
		need         []int
		l            []api.Pile
		boxes, proof int
	}{
		{"example", need(), piles(), 4, 7},
		{"no piles", need(), nil, 0, 1},
		{"an empty list of piles", need(), pilesOf(), 0, 1},
		{"piles without pencils", need(), pilesOf(7, 0, 1, 0), 0, 1},
		{"piles without shades", need(), pilesOf(0, 100, 0, 100), 0, 1},
		{"no piles, and a shade that is not needed", []int{0, 1, 1}, nil, 0, 2},
		{"one shade", []int{3}, pilesOf(1, 12), 4, 1},
		{"one shade, just not one more", []int{3}, pilesOf(1, 14), 4, 1},
		{"one shade, just one more", []int{3}, pilesOf(1, 15), 5, 1},
		{"pencils of two piles", []int{3}, pilesOf(1, 7, 1, 8), 5, 1},
		{"the first of two shades is short", []int{1, 1}, pilesOf(1, 5, 2, 9), 5, 1},
		{"the second one is", []int{1, 1}, pilesOf(1, 9, 2, 5), 5, 2},
		{"both are, each alone", []int{1, 1}, pilesOf(1, 5, 2, 5), 5, 1},
		{"both are together, and neither alone", []int{1, 1}, pilesOf(3, 9), 4, 3},
		{"one pile could be sold as both, but is not enough", []int{2, 2}, pilesOf(3, 3, 1, 5, 2, 1), 2, 2},
		{"the set with the least number lacks fewer", []int{1, 3}, pilesOf(1, 2), 0, 2},
		{"of several, not the one that lacks most", []int{1, 4}, pilesOf(1, 1, 2, 4), 1, 1},
		{"a set with a gap", []int{1, 1, 1}, pilesOf(5, 9, 2, 50), 4, 5},
		{"a shade that is not needed is no part of the first set", []int{1, 0, 1}, pilesOf(5, 9), 4, 5},
		{"a shade that is not needed has a pile", []int{0, 1}, pilesOf(1, 0, 2, 5), 5, 2},
		{"a pile of all shades", []int{1, 1, 1}, pilesOf(1, 2, 2, 2, 4, 2, 7, 5), 3, 7},
		{"a pile of all shades, two of which are short", []int{1, 1, 1}, pilesOf(1, 2, 2, 2, 4, 2, 7, 3), 3, 3},
		{"one pencil lacks for the first box", []int{48, 48}, pilesOf(3, 95), 0, 3},
		{"just the first box", []int{48, 48}, pilesOf(3, 96), 1, 3},
		{"more boxes than a number may be given of", []int{1}, slices.Repeat(pilesOf(1, 1<<20), 8), 1 << 23, 1},
		{"the most of all", equal(48, 8), slices.Repeat(pilesOf(255, 1<<20), 8), 1 << 23 / 384, 255},
		{"only the last shade is needed", []int{0, 0, 0, 0, 0, 0, 0, 1}, pilesOf(255, 9, 127, 100), 9, 128},
	} {
		if boxes, proof, e := Most(c.need, c.l); boxes != c.boxes || proof != c.proof || e != api.OK {
			t.Errorf("%s: Most = %d, %d, error %d, not %d, %d", c.name, boxes, proof, e, c.boxes, c.proof)
		}
	}
}

// P9.2: the chapter's examples; the first numbers are as great as they can be, and leave what only they can give to others.
func TestFill(t *testing.T) {
	for _, c := range []struct {
		name  string
		need  []int
		l     []api.Pile
		boxes int
		want  [][]int
		e     api.Errno
	}{
		{"example of 4", need(), piles(), 4, [][]int{{8, 2, 0}, {0, 2, 4}, {0, 0, 0}}, api.OK},
		{"example of 5", need(), piles(), 5, nil, api.ErrShort},
		{"no boxes", need(), piles(), 0, [][]int{{0, 0, 0}, {0, 0, 0}, {0, 0, 0}}, api.OK},
		{"no boxes and no piles", need(), nil, 0, nil, api.OK},
		{"no piles", need(), nil, 1, nil, api.ErrShort},
		{"the most boxes, far too many", need(), piles(), 1 << 20, nil, api.ErrShort},
		{"one shade", []int{3}, pilesOf(1, 7, 1, 8), 5, [][]int{{7}, {8}}, api.OK},
		{"one shade, one too many", []int{3}, pilesOf(1, 7, 1, 8), 6, nil, api.ErrShort},
		{"the first pile is enough", []int{3}, pilesOf(1, 7, 1, 8), 2, [][]int{{6}, {0}}, api.OK},
		{"the first pile is left for what no other one has", []int{1, 1}, pilesOf(3, 9, 1, 4), 6, [][]int{{3, 6}, {3, 0}}, api.OK},
		{"the first shade as great as can be", []int{1, 1}, pilesOf(3, 9, 3, 9), 6, [][]int{{6, 3}, {0, 3}}, api.OK},
		{"the second pile gives the first shade", []int{1, 1}, pilesOf(2, 9, 3, 9), 6, [][]int{{0, 6}, {6, 0}}, api.OK},
		{"a pile without shades", []int{1, 1}, pilesOf(3, 9, 0, 5, 1, 4), 6, [][]int{{3, 6}, {0, 0}, {3, 0}}, api.OK},
		{"a pile without pencils", []int{1, 1}, pilesOf(3, 0, 3, 12), 6, [][]int{{0, 0}, {6, 6}}, api.OK},
		{"a shade that is not needed", []int{1, 0, 1}, pilesOf(7, 12), 6, [][]int{{6, 0, 6}}, api.OK},
		{"pile by pile, then shade by shade", []int{1, 2, 1}, pilesOf(7, 4, 7, 4), 2, [][]int{{2, 2, 0}, {0, 2, 2}}, api.OK},
		{"what is left for the last of three", []int{1, 1, 1}, pilesOf(7, 3, 3, 3, 1, 3), 3, [][]int{{0, 0, 3}, {0, 3, 0}, {3, 0, 0}}, api.OK},
		{"a chain of piles", []int{2, 2, 2}, pilesOf(3, 5, 6, 5, 4, 1), 1, [][]int{{2, 2, 0}, {0, 0, 2}, {0, 0, 0}}, api.OK},
		{"a chain of piles, of which all pencils are needed", []int{2, 2, 2}, pilesOf(3, 2, 6, 3, 4, 1), 1, [][]int{{2, 0, 0}, {0, 2, 1}, {0, 0, 1}}, api.OK},
		{"together enough, but not of the last one", []int{2, 2}, pilesOf(1, 5, 3, 1), 1, nil, api.ErrShort},
		{"the most pencils", []int{1, 1}, pilesOf(3, 1<<20, 3, 1<<20), 1 << 20, [][]int{{1 << 20, 0}, {0, 1 << 20}}, api.OK},
	} {
		if l, e := Fill(c.need, c.l, c.boxes); !sameRows(l, c.want) || e != c.e {
			t.Errorf("%s: Fill = %v, error %d, not %v, error %d", c.name, l, e, c.want, c.e)
		}
	}
}

// P9.3: the chapter's examples; what others cannot give, and what is no longer wanted.
func TestUse(t *testing.T) {
	two := []int{1, 1}
	for _, c := range []struct {
		name        string
		need        []int
		l           []api.Pile
		boxes, pile int
		want        api.Span
		e           api.Errno
	}{
		{"example, the pile 0", need(), piles(), 4, 0, span(8, 10), api.OK},
		{"example, the pile 1", need(), piles(), 4, 1, span(3, 6), api.OK},
		{"example, the pile 2", need(), piles(), 4, 2, span(0, 3), api.OK},
		{"one box, the pile 0", need(), piles(), 1, 0, span(2, 3), api.OK},
		{"one box, the pile 1", need(), piles(), 1, 1, span(0, 2), api.OK},
		{"one box, the pile 2", need(), piles(), 1, 2, span(0, 1), api.OK},
		{"no boxes", need(), piles(), 0, 1, span(0, 0), api.OK},
		{"too many boxes", need(), piles(), 5, 1, span(0, 0), api.ErrShort},
		{"far too many boxes", need(), piles(), 1 << 20, 1, span(0, 0), api.ErrShort},
		{"the only pile", two, pilesOf(3, 20), 6, 0, span(12, 12), api.OK},
		{"the only pile, of which all is needed", two, pilesOf(3, 12), 6, 0, span(12, 12), api.OK},
		{"what another one lacks", two, pilesOf(3, 9, 1, 4), 6, 1, span(3, 4), api.OK},
		{"the only one of a shade", two, pilesOf(3, 9, 1, 4), 6, 0, span(8, 9), api.OK},
		{"more of it than others lack", two, pilesOf(3, 90, 1, 4), 6, 0, span(8, 12), api.OK},
		{"more than is wanted of its shade", two, pilesOf(1, 90, 3, 90), 6, 0, span(0, 6), api.OK},
		{"a pile without shades", two, pilesOf(3, 12, 0, 5), 6, 1, span(0, 0), api.OK},
		{"a pile of a shade that is not needed", []int{1, 0}, pilesOf(1, 6, 2, 5), 6, 1, span(0, 0), api.OK},
		{"a pile without pencils", two, pilesOf(3, 12, 3, 0), 6, 1, span(0, 0), api.OK},
		{"the last of eight", two, slices.Repeat(pilesOf(3, 2), 8), 8, 7, span(2, 2), api.OK},
		{"the last of eight, each of which can be left", two, slices.Repeat(pilesOf(3, 2), 8), 7, 7, span(0, 2), api.OK},
		{"the most pencils", two, pilesOf(3, 1<<20, 3, 1<<20), 1 << 20, 1, span(1<<20, 1<<20), api.OK},
		{"together enough, but not of the second one", two, pilesOf(1, 5, 3, 1), 2, 0, span(0, 0), api.ErrShort},
	} {
		if s, e := Use(c.need, c.l, c.boxes, c.pile); s != c.want || e != c.e {
			t.Errorf("%s: Use = %v, error %d, not %v, error %d", c.name, s, e, c.want, c.e)
		}
	}
}

// P9.4: the chapter's examples; the set that lacks most, not the first one that lacks, nor the greatest one.
func TestLack(t *testing.T) {
	for _, c := range []struct {
		name                string
		need                []int
		l                   []api.Pile
		boxes, set, pencils int
		e                   api.Errno
	}{
		{"example of 5", need(), piles(), 5, 7, 1, api.OK},
		{"example of 6", need(), piles(), 6, 7, 5, api.OK},
		{"example of 4", need(), piles(), 4, 0, 0, api.ErrNone},
		{"no boxes", need(), piles(), 0, 0, 0, api.ErrNone},
		{"no boxes and no piles", need(), nil, 0, 0, 0, api.ErrNone},
		{"no piles", need(), nil, 3, 7, 12, api.OK},
		{"just enough", []int{3}, pilesOf(1, 15), 5, 0, 0, api.ErrNone},
		{"just not enough", []int{3}, pilesOf(1, 14), 5, 1, 1, api.OK},
		{"the first two shades", need(), pilesOf(4, 99), 5, 3, 15, api.OK},
		{"only the second shade", need(), pilesOf(1, 10, 4, 99), 5, 2, 5, api.OK},
		{"not the first set that lacks", need(), pilesOf(1, 10, 2, 3, 4, 4), 5, 6, 3, api.OK},
		{"not the greatest set that lacks", need(), pilesOf(1, 9, 2, 5, 4, 6), 5, 1, 1, api.OK},
		{"the least number of those that lack as many", need(), pilesOf(1, 9, 2, 5, 4, 5), 5, 1, 1, api.OK},
		{"without a shade that is not needed", []int{1, 0, 1}, nil, 5, 5, 10, api.OK},
		{"with a shade that lacks nothing itself", []int{4, 1, 4}, pilesOf(7, 8), 1, 7, 1, api.OK},
		{"a set with a gap", []int{1, 1, 1}, pilesOf(5, 9, 2, 50), 5, 5, 1, api.OK},
		{"the most that can lack", equal(48, 8), nil, 1 << 20, 255, 48 << 23, api.OK},
		{"the most that can lack of one pile", equal(48, 8), pilesOf(128, 1<<20), 1 << 20, 255, 48<<23 - 1<<20, api.OK},
	} {
		if set, n, e := Lack(c.need, c.l, c.boxes); set != c.set || n != c.pencils || e != c.e {
			t.Errorf("%s: Lack = %d, %d, error %d, not %d, %d, error %d", c.name, set, n, e, c.set, c.pencils, c.e)
		}
	}
}

// expectArg expects that all functions return ErrArg, whatever the boxes and the pile are, and nothing else.
func expectArg(t *testing.T, need []int, l []api.Pile) {
	t.Helper()
	if boxes, proof, e := Most(need, l); boxes != 0 || proof != 0 || e != api.ErrArg {
		t.Errorf("Most(%v, %v) = %d, %d, error %d", need, l, boxes, proof, e)
	}
	for _, c := range [][2]int{{0, 0}, {1, 1}, {api.MaxMany, 0}, {-1, 0}, {1, -1}, {api.MaxMany + 1, 9}} {
		expectErrors(t, need, l, c[0], c[1], [3]api.Errno{api.ErrArg, api.ErrArg, api.ErrArg})
	}
}

// expectErrors expects errors of Fill, Use and Lack, and nothing else.
func expectErrors(t *testing.T, need []int, l []api.Pile, boxes, pile int, want [3]api.Errno) {
	t.Helper()
	if rows, e := Fill(need, l, boxes); len(rows) != 0 || e != want[0] {
		t.Errorf("Fill(%v, %v, %d) = %v, error %d, not error %d", need, l, boxes, rows, e, want[0])
	}
	if s, e := Use(need, l, boxes, pile); s != span(0, 0) || e != want[1] {
		t.Errorf("Use(%v, %v, %d, %d) = %v, error %d, not error %d", need, l, boxes, pile, s, e, want[1])
	}
	if set, n, e := Lack(need, l, boxes); set != 0 || n != 0 || e != want[2] {
		t.Errorf("Lack(%v, %v, %d) = %d, %d, error %d, not error %d", need, l, boxes, set, n, e, want[2])
	}
}

// wrongNumbers returns numbers that are not from one to another one.
func wrongNumbers(least, most int) []int {
	return []int{least - 1, most + 1, math.MinInt, math.MaxInt}
}

// P9.1 to P9.4, R1: ErrArg for what a box needs, and for the piles, comes before all other errors.
func TestErrArg(t *testing.T) {
	expectArg(t, nil, piles())
	expectArg(t, []int{}, nil)
	expectArg(t, []int{0, 0, 0}, piles())
	expectArg(t, equal(0, 9), nil)
	expectArg(t, equal(1, 9), nil)
	expectArg(t, equal(1, 1000), piles())
	for _, n := range wrongNumbers(0, api.MaxNeed) {
		expectArg(t, []int{n}, nil)
		for shade := range need() {
			some := need()
			some[shade] = n
			expectArg(t, some, piles())
		}
	}
	expectArg(t, need(), slices.Repeat(pilesOf(1, 1), 9))
	expectArg(t, need(), make([]api.Pile, 1000))
	for i := range piles() {
		for _, n := range wrongNumbers(0, 7) {
			l := piles()
			l[i].Shades = n
			expectArg(t, need(), l)
		}
		for _, n := range wrongNumbers(0, api.MaxMany) {
			l := piles()
			l[i].Many = n
			expectArg(t, need(), l)
		}
	}
	expectArg(t, []int{1, 1}, piles())
	expectArg(t, equal(1, 8), pilesOf(256, 1))
	expectArg(t, []int{1}, pilesOf(0, -1))
}

// P9.2 to P9.4, R1: a number of boxes that is none, and a pile that is none, have ErrRange, before ErrShort and ErrNone.
func TestErrRange(t *testing.T) {
	for _, n := range wrongNumbers(0, api.MaxMany) {
		for _, pile := range []int{0, 2, 3, -1} {
			expectErrors(t, need(), piles(), n, pile, [3]api.Errno{api.ErrRange, api.ErrRange, api.ErrRange})
		}
		expectErrors(t, need(), nil, n, 0, [3]api.Errno{api.ErrRange, api.ErrRange, api.ErrRange})
	}
	for _, pile := range wrongNumbers(0, 2) {
		if s, e := Use(need(), piles(), 4, pile); s != span(0, 0) || e != api.ErrRange {
			t.Errorf("Use of the pile %d = %v, error %d", pile, s, e)
		}
		if s, e := Use(need(), piles(), 5, pile); s != span(0, 0) || e != api.ErrRange {
			t.Errorf("Use of the pile %d for too many boxes = %v, error %d", pile, s, e)
		}
	}
	if s, e := Use(need(), nil, 0, 0); s != span(0, 0) || e != api.ErrRange {
		t.Errorf("Use without piles = %v, error %d", s, e)
	}
}

// P9.5, R4: no argument is changed, and results are new memory, each row of them.
func TestMemory(t *testing.T) {
	n, l := need(), piles()
	rows, _ := Fill(n, l, 4)
	Most(n, l)
	Lack(n, l, 6)
	for pile := range l {
		Use(n, l, 4, pile)
	}
	if !slices.Equal(n, need()) || !slices.Equal(l, piles()) {
		t.Errorf("arguments are changed: %v, %v", n, l)
	}
	want := [][]int{{8, 2, 0}, {0, 2, 4}, {0, 0, 0}}
	for pile := range rows {
		if !slices.Equal(rows[pile], want[pile]) {
			t.Errorf("the row %d shares memory with another one: %v", pile, rows)
		}
		row := rows[pile]
		for shade := range row {
			row[shade] = 77
		}
		_ = append(row, 77, 77, 77)
	}
	if again, _ := Fill(n, l, 4); !sameRows(again, want) || !slices.Equal(n, need()) || !slices.Equal(l, piles()) {
		t.Errorf("a result shares memory: %v, %v, %v", again, n, l)
	}
}

// R3: a nil list of piles and an empty one are the same.
func TestNil(t *testing.T) {
	for _, l := range [][]api.Pile{nil, {}} {
		if rows, e := Fill(need(), l, 0); len(rows) != 0 || e != api.OK {
			t.Errorf("Fill = %v, error %d", rows, e)
		}
		if set, n, e := Lack(need(), l, 1); set != 7 || n != 4 || e != api.OK {
			t.Errorf("Lack = %d, %d, error %d", set, n, e)
		}
	}
}
