package box

import (
	"math"
	"math/rand"
	"slices"
	"testing"

	"pencilworks/api"
)

// tries is how often a property is tried.
const tries = 1000

// anyNeed returns what a box needs, of so many shades, and at most so much of each.
func anyNeed(r *rand.Rand, shades, most int) []int {
	all := make([]int, shades)
	for i := range all {
		all[i] = r.Intn(most + 1)
	}
	all[r.Intn(shades)] = 1 + r.Intn(most)
	return all
}

// anyPiles returns piles that may be sold as some of so many shades, and have at most so many pencils.
func anyPiles(r *rand.Rand, count, shades, most int) (l []api.Pile) {
	for range count {
		l = append(l, api.Pile{Shades: r.Intn(1 << shades), Many: r.Intn(most + 1)})
	}
	return l
}

// shop is what a box needs, and piles.
type shop struct {
	need  []int
	piles []api.Pile
}

// anyShop returns a shop of at most so many shades and piles; some have few pencils, and some have as many as there can be.
func anyShop(r *rand.Rand, shades, count int) shop {
	shades, count = 1+r.Intn(shades), r.Intn(count+1)
	switch r.Intn(3) {
	case 0:
		return shop{anyNeed(r, shades, 3), anyPiles(r, count, shades, 12)}
	case 1:
		return shop{anyNeed(r, shades, 9), anyPiles(r, count, shades, 300)}
	}
	return shop{anyNeed(r, shades, api.MaxNeed), anyPiles(r, count, shades, api.MaxMany)}
}

// anyBoxes returns a number of boxes, often near the greatest one that can be filled.
func (s shop) anyBoxes(r *rand.Rand) int {
	most, _, _ := Most(s.need, s.piles)
	return min(api.MaxMany, max(0, most+r.Intn(5)-2))
}

// lackOf returns how many pencils a set lacks for so many boxes; it is less than 0 if it has more.
func (s shop) lackOf(set, boxes int) (pencils int) {
	for shade, n := range s.need {
		if set&(1<<shade) != 0 {
			pencils += n * boxes
		}
	}
	for _, p := range s.piles {
		if p.Shades&set != 0 {
			pencils -= p.Many
		}
	}
	return pencils
}

// ask returns how many pencils of each shade so many boxes need.
func (s shop) ask(boxes int) (all []int) {
	for _, n := range s.need {
		all = append(all, n*boxes)
	}
	return all
}

// sum returns the sum of a list.
func sum(l []int) (n int) {
	for _, x := range l {
		n += x
	}
	return n
}

// desk sells pencils one way after another, and takes back what it has sold as another shade where this helps.
type desk struct {
	left, open []int   // what is left of each pile, and what is still asked of each shade
	sold       [][]int // by pile and shade
	piles      []api.Pile
	seen       []bool
}

// serve finds more pencils for a shade, at most so many, and returns how many it has found.
func (d *desk) serve(shade, most int) int {
	if d.seen[shade] {
		return 0
	}
	d.seen[shade] = true
	for i, p := range d.piles {
		if p.Shades&(1<<shade) == 0 {
			continue
		}
		if n := min(most, d.left[i]); n > 0 {
			d.left[i] -= n
			d.sold[i][shade] += n
			return n
		}
		for other, n := range d.sold[i] {
			if n == 0 || other == shade {
				continue
			}
			if n = d.serve(other, min(most, n)); n > 0 {
				d.sold[i][other] -= n
				d.sold[i][shade] += n
				return n
			}
		}
	}
	return 0
}

// sellAll returns the greatest number of pencils that can be sold where so many of each shade are asked for.
func sellAll(open []int, piles []api.Pile) (n int) {
	d := &desk{open: slices.Clone(open), piles: piles}
	for _, p := range piles {
		d.left = append(d.left, p.Many)
		d.sold = append(d.sold, make([]int, len(open)))
	}
	for shade := range open {
		for d.open[shade] > 0 {
			d.seen = make([]bool, len(open))
			more := d.serve(shade, d.open[shade])
			if more == 0 {
				break
			}
			d.open[shade] -= more
			n += more
		}
	}
	return n
}

// canServe tells whether just so many pencils of each shade can be sold.
func canServe(open []int, piles []api.Pile) bool {
	return len(open) > 0 && slices.Min(open) >= 0 && sellAll(open, piles) == sum(open)
}

// tried is what was found when all assignments were tried: the first of them, the greatest numbers first, and how many pencils of each pile are sold.
type tried struct {
	count int
	first [][]int
	spans []api.Span
}

// tryAll tries all assignments for so many boxes.
func (s shop) tryAll(boxes int) (found tried) {
	open := s.ask(boxes)
	rows := make([][]int, len(s.piles))
	for i := range rows {
		rows[i] = make([]int, len(s.need))
	}
	found.spans = slices.Repeat([]api.Span{span(math.MaxInt, -1)}, len(rows))
	var place func(i, shade, left int)
	next := func(i int) {
		if i < len(rows) {
			place(i, 0, s.piles[i].Many)
			return
		}
		if slices.Max(open) > 0 {
			return
		}
		if found.count++; found.count == 1 {
			for _, row := range rows {
				found.first = append(found.first, slices.Clone(row))
			}
		}
		for i, row := range rows {
			n := sum(row)
			found.spans[i] = span(min(found.spans[i].Lo, n), max(found.spans[i].Hi, n))
		}
	}
	place = func(i, shade, left int) {
		if shade == len(open) {
			next(i + 1)
			return
		}
		most := 0
		if s.piles[i].Shades&(1<<shade) != 0 {
			most = min(left, open[shade])
		}
		for n := most; n >= 0; n-- {
			rows[i][shade] = n
			open[shade] -= n
			place(i, shade+1, left-n)
			open[shade] += n
			rows[i][shade] = 0
		}
	}
	next(0)
	return found
}

// P9.1 to P9.3, P9.6: no assignment fills more boxes than Most says; the first of all is that of Fill, and each pile sells what Use says.
func TestAllAssignments(t *testing.T) {
	r := rand.New(rand.NewSource(1))
	none, one, several, wide := 0, 0, 0, 0
	for range tries {
		shades := 1 + r.Intn(3)
		s := shop{anyNeed(r, shades, 2), anyPiles(r, r.Intn(4), shades, 5)}
		most, _, _ := Most(s.need, s.piles)
		for boxes := range most + 2 {
			found := s.tryAll(boxes)
			want := api.OK
			if found.count == 0 {
				want = api.ErrShort
			}
			if (want == api.OK) != (boxes <= most) {
				t.Fatalf("Most(%v) = %d, but %d boxes have %d assignments", s, most, boxes, found.count)
			}
			if rows, e := Fill(s.need, s.piles, boxes); !sameRows(rows, found.first) || e != want {
				t.Errorf("Fill(%v, %d) = %v, error %d, not %v, error %d", s, boxes, rows, e, found.first, want)
			}
			for pile, is := range found.spans {
				if want != api.OK {
					is = span(0, 0)
				}
				if got, e := Use(s.need, s.piles, boxes, pile); got != is || e != want {
					t.Errorf("Use(%v, %d, %d) = %v, error %d, not %v, error %d", s, boxes, pile, got, e, is, want)
				}
				if is.Lo < is.Hi {
					wide++
				}
			}
			switch {
			case found.count == 0:
				none++
			case found.count == 1:
				one++
			default:
				several++
			}
		}
	}
	if min(none, one, several, wide) < tries/5 {
		t.Errorf("only some kinds of boxes are tested: %d without an assignment, %d with one, %d with several, %d spans", none, one, several, wide)
	}
}

// P9.1, P9.6, P4: one box more cannot be sold, its proof lacks pencils, and no set with a lesser number does.
func TestProof(t *testing.T) {
	r := rand.New(rand.NewSource(2))
	seen := map[bool]int{}
	for range tries {
		s := anyShop(r, api.MaxShades, api.MaxPiles)
		boxes, proof, e := Most(s.need, s.piles)
		if e != api.OK || boxes < 0 || !canServe(s.ask(boxes), s.piles) || canServe(s.ask(boxes+1), s.piles) {
			t.Fatalf("Most(%v) = %d, error %d", s, boxes, e)
		}
		first := 1
		for first < 1<<len(s.need) && s.lackOf(first, boxes+1) <= 0 {
			first++
		}
		if proof != first {
			t.Errorf("Most(%v) = %d, %d, but the first set that lacks pencils for one box more is %d", s, boxes, proof, first)
		}
		seen[boxes > 0]++
		seen[proof&(proof-1) == 0]++
	}
	if min(seen[true], seen[false]) < tries/4 {
		t.Errorf("only some kinds of boxes are tested: %v", seen)
	}
}

// isAssignment tells whether rows are an assignment for so many boxes.
func (s shop) isAssignment(rows [][]int, boxes int) bool {
	if len(rows) != len(s.piles) {
		return false
	}
	open := s.ask(boxes)
	for i, row := range rows {
		if len(row) != len(s.need) || slices.Min(row) < 0 || sum(row) > s.piles[i].Many {
			return false
		}
		for shade, n := range row {
			if n > 0 && s.piles[i].Shades&(1<<shade) == 0 {
				return false
			}
			open[shade] -= n
		}
	}
	return slices.Min(open) == 0 && slices.Max(open) == 0
}

// isGreatest tells whether no number of rows can be greater where those before it stay.
func (s shop) isGreatest(rows [][]int, boxes int) bool {
	open, left := s.ask(boxes), slices.Clone(s.piles)
	for i, row := range rows {
		for shade, n := range row {
			if left[i].Shades&(1<<shade) == 0 {
				continue
			}
			open[shade] -= n + 1
			left[i].Many -= n + 1
			if left[i].Many >= 0 && canServe(open, left) {
				return false
			}
			open[shade]++
			left[i].Many++
			left[i].Shades &^= 1 << shade
		}
	}
	return true
}

// P9.2, P9.6: an assignment has just what all boxes need, from no pile more than it has, and its first numbers are as great as they can be; boxes can be filled just if no set lacks pencils.
func TestFillIsAnAssignment(t *testing.T) {
	r := rand.New(rand.NewSource(3))
	seen := map[api.Errno]int{}
	for range tries {
		s := anyShop(r, api.MaxShades, api.MaxPiles)
		boxes := s.anyBoxes(r)
		rows, e := Fill(s.need, s.piles, boxes)
		_, _, lacks := Lack(s.need, s.piles, boxes)
		switch {
		case canServe(s.ask(boxes), s.piles):
			if e != api.OK || lacks != api.ErrNone || !s.isAssignment(rows, boxes) || !s.isGreatest(rows, boxes) {
				t.Errorf("Fill(%v, %d) = %v, error %d; Lack has the error %d", s, boxes, rows, e, lacks)
			}
		case e != api.ErrShort || lacks != api.OK || rows != nil:
			t.Errorf("Fill(%v, %d) = %v, error %d; Lack has the error %d", s, boxes, rows, e, lacks)
		}
		seen[e]++
	}
	if min(seen[api.OK], seen[api.ErrShort]) < tries/4 {
		t.Errorf("only some kinds of boxes are tested: %v", seen)
	}
}

// isMost tells whether so many pencils are all that a pile has, or all that is asked of its shades.
func (s shop) isMost(pile, boxes, pencils int) bool {
	p, asked := s.piles[pile], 0
	for shade, n := range s.ask(boxes) {
		if p.Shades&(1<<shade) != 0 {
			asked += n
		}
	}
	return pencils == min(p.Many, asked)
}

// P9.3: a pile sells most where it is asked first, and no assignment sells more; the boxes can be filled with as few of its pencils as it must sell, and not with fewer.
func TestUseOfAnyPile(t *testing.T) {
	r := rand.New(rand.NewSource(4))
	seen := map[string]int{}
	for range tries {
		s := anyShop(r, api.MaxShades, api.MaxPiles)
		boxes := s.anyBoxes(r)
		for pile := range s.piles {
			got, e := Use(s.need, s.piles, boxes, pile)
			others := slices.Delete(slices.Clone(s.piles), pile, pile+1)
			first, short := Fill(s.need, append(s.piles[pile:pile+1:pile+1], others...), boxes)
			if short != api.OK {
				if got != span(0, 0) || e != short {
					t.Errorf("Use(%v, %d, %d) = %v, error %d, not error %d", s, boxes, pile, got, e, short)
				}
				seen["short"]++
				continue
			}
			if most := sum(first[0]); got.Hi != most || !s.isMost(pile, boxes, most) || e != api.OK {
				t.Errorf("Use(%v, %d, %d) = %v, error %d, but it sells %d where it is asked first", s, boxes, pile, got, e, most)
			}
			l := slices.Clone(s.piles)
			if l[pile].Many = got.Lo; !canServe(s.ask(boxes), l) {
				t.Errorf("Use(%v, %d, %d) = %v, but so few are not enough", s, boxes, pile, got)
			}
			if l[pile].Many--; l[pile].Many >= 0 && canServe(s.ask(boxes), l) {
				t.Errorf("Use(%v, %d, %d) = %v, but fewer are enough", s, boxes, pile, got)
			}
			switch {
			case got.Lo > 0 && got.Lo < got.Hi:
				seen["wide"]++
			case got.Lo > 0:
				seen["all"]++
			case got.Hi > 0:
				seen["perhaps"]++
			}
		}
	}
	if min(seen["short"], seen["wide"], seen["all"], seen["perhaps"]) < tries/10 {
		t.Errorf("only some kinds of piles are tested: %v", seen)
	}
}

// P9.4, P9.6: so many pencils lack as cannot be sold, and of all sets that lack as many it is the first.
func TestLackOfAnySet(t *testing.T) {
	r := rand.New(rand.NewSource(5))
	none, several := 0, 0
	for range tries {
		s := anyShop(r, api.MaxShades, api.MaxPiles)
		boxes := s.anyBoxes(r)
		pencils := sum(s.ask(boxes)) - sellAll(s.ask(boxes), s.piles)
		want, first, equal := api.ErrNone, 0, 0
		for set := 1; pencils > 0 && set < 1<<len(s.need); set++ {
			switch lack := s.lackOf(set, boxes); {
			case lack > pencils:
				t.Fatalf("%v: the set %d lacks %d for %d boxes, but only %d cannot be sold", s, set, lack, boxes, pencils)
			case lack == pencils && first == 0:
				want, first = api.OK, set
			case lack == pencils:
				equal++
			}
		}
		if set, n, e := Lack(s.need, s.piles, boxes); set != first || n != pencils || e != want {
			t.Errorf("Lack(%v, %d) = %d, %d, error %d, not %d, %d, error %d", s, boxes, set, n, e, first, pencils, want)
		}
		if want == api.ErrNone {
			none++
		}
		if equal > 0 {
			several++
		}
	}
	if none < tries/4 || none > tries*3/4 || several < tries/20 {
		t.Errorf("only some kinds of boxes are tested: %d lack nothing, %d have several sets that lack most", none, several)
	}
}

// P9.6: with as many pencils more as lack, which may be sold as each shade of the set, boxes can be filled, and with fewer they cannot, also if these may be sold as each shade.
func TestWhatLacks(t *testing.T) {
	r := rand.New(rand.NewSource(6))
	lacking := 0
	for range tries {
		s := anyShop(r, api.MaxShades, api.MaxPiles-1)
		boxes := s.anyBoxes(r)
		set, n, e := Lack(s.need, s.piles, boxes)
		if e != api.OK || n > api.MaxMany {
			continue
		}
		lacking++
		more := append(slices.Clone(s.piles), api.Pile{Shades: set, Many: n})
		if _, e := Fill(s.need, more, boxes); e != api.OK {
			t.Errorf("Fill(%v, %v, %d) has the error %d", s.need, more, boxes, e)
		}
		more[len(more)-1].Many--
		for _, any := range []int{set, 1<<len(s.need) - 1} {
			more[len(more)-1].Shades = any
			if _, e := Fill(s.need, more, boxes); e != api.ErrShort {
				t.Errorf("Fill(%v, %v, %d) has the error %d", s.need, more, boxes, e)
			}
		}
	}
	if lacking < tries/4 {
		t.Errorf("only %d lacks are tested", lacking)
	}
}

// P9.6: with more pencils, or with more shades of a pile, no fewer boxes can be filled.
func TestMorePencils(t *testing.T) {
	r := rand.New(rand.NewSource(7))
	changed := 0
	for range tries {
		s := anyShop(r, api.MaxShades, api.MaxPiles)
		before, _, _ := Most(s.need, s.piles)
		for i := range s.piles {
			switch p := &s.piles[i]; r.Intn(4) {
			case 0:
				p.Many = min(api.MaxMany, p.Many*2+r.Intn(3))
			case 1:
				p.Shades |= 1 << r.Intn(len(s.need))
			}
		}
		after, _, _ := Most(s.need, s.piles)
		if after < before {
			t.Errorf("Most(%v) = %d, but %d with less", s, after, before)
		}
		if after > before {
			changed++
		}
	}
	if changed < tries/10 {
		t.Errorf("only %d changes are tested", changed)
	}
}

// P9.6: two piles with the same shades are as good as one.
func TestTwoPilesAsOne(t *testing.T) {
	r := rand.New(rand.NewSource(8))
	for range tries {
		s := anyShop(r, api.MaxShades, api.MaxPiles-1)
		if len(s.piles) == 0 {
			continue
		}
		boxes, pile := s.anyBoxes(r), r.Intn(len(s.piles))
		apart := shop{s.need, slices.Clone(s.piles)}
		part := r.Intn(s.piles[pile].Many + 1)
		apart.piles[pile].Many -= part
		apart.piles = slices.Insert(apart.piles, r.Intn(len(s.piles)+1), api.Pile{Shades: s.piles[pile].Shades, Many: part})
		expectSame(t, s, apart, boxes)
	}
}

// expectSame expects that as many boxes can be filled of two shops, for the same reason, and that the same lacks.
func expectSame(t *testing.T, a, b shop, boxes int) {
	t.Helper()
	most, proof, _ := Most(a.need, a.piles)
	if n, p, e := Most(b.need, b.piles); n != most || p != proof || e != api.OK {
		t.Errorf("Most(%v) = %d, %d, error %d, but %d, %d of %v", b, n, p, e, most, proof, a)
	}
	set, pencils, lacks := Lack(a.need, a.piles, boxes)
	if s, n, e := Lack(b.need, b.piles, boxes); s != set || n != pencils || e != lacks {
		t.Errorf("Lack(%v, %d) = %d, %d, error %d, but %d, %d, error %d of %v", b, boxes, s, n, e, set, pencils, lacks, a)
	}
}

// P9.6, P11: the order of piles makes no difference to how many boxes can be filled, to what lacks, or to what a pile sells.
func TestOrderOfPiles(t *testing.T) {
	r := rand.New(rand.NewSource(9))
	for range tries {
		s := anyShop(r, api.MaxShades, api.MaxPiles)
		boxes, order := s.anyBoxes(r), r.Perm(len(s.piles))
		turned := shop{need: s.need}
		for _, pile := range order {
			turned.piles = append(turned.piles, s.piles[pile])
		}
		expectSame(t, s, turned, boxes)
		for i, pile := range order {
			before, _ := Use(s.need, s.piles, boxes, pile)
			if after, _ := Use(s.need, turned.piles, boxes, i); after != before {
				t.Errorf("Use(%v, %d, %d) = %v, but %v in another order", turned, boxes, i, after, before)
			}
		}
	}
}

// turn returns a set whose shades are turned.
func turn(set int, order []int) (turned int) {
	for shade, to := range order {
		turned |= set >> shade & 1 << to
	}
	return turned
}

// P9.6, P11: the order of shades makes no difference to how many boxes can be filled, to how many pencils lack, or to what a pile sells, if all sets are turned with them.
func TestOrderOfShades(t *testing.T) {
	r := rand.New(rand.NewSource(10))
	for range tries {
		s := anyShop(r, api.MaxShades, api.MaxPiles)
		boxes, order := s.anyBoxes(r), r.Perm(len(s.need))
		turned := shop{make([]int, len(s.need)), slices.Clone(s.piles)}
		for shade, to := range order {
			turned.need[to] = s.need[shade]
		}
		for i, p := range s.piles {
			turned.piles[i].Shades = turn(p.Shades, order)
		}
		most, proof, _ := Most(s.need, s.piles)
		if n, _, _ := Most(turned.need, turned.piles); n != most || turned.lackOf(turn(proof, order), n+1) <= 0 {
			t.Errorf("Most(%v) = %d, but %d, %d of %v", turned, n, most, proof, s)
		}
		set, pencils, lacks := Lack(s.need, s.piles, boxes)
		_, n, e := Lack(turned.need, turned.piles, boxes)
		if n != pencils || e != lacks || e == api.OK && turned.lackOf(turn(set, order), boxes) != n {
			t.Errorf("Lack(%v, %d) = %d, error %d, but %d, error %d of %v", turned, boxes, n, e, pencils, lacks, s)
		}
		for pile := range s.piles {
			before, _ := Use(s.need, s.piles, boxes, pile)
			if after, _ := Use(turned.need, turned.piles, boxes, pile); after != before {
				t.Errorf("Use(%v, %d, %d) = %v, but %v in another order of shades", turned, boxes, pile, after, before)
			}
		}
	}
}

// oddNumber returns a number that may be valid, at a bound, or far from it.
func oddNumber(r *rand.Rand) int {
	odd := []int{math.MinInt, math.MinInt + 1, -1, 0, 1, 2, 7, 48, 49, 255, 256, api.MaxMany, api.MaxMany + 1, math.MaxInt - 1, math.MaxInt}
	if r.Intn(2) == 0 {
		return r.Intn(9)
	}
	return odd[r.Intn(len(odd))]
}

// P1: every function ends and does not panic, for all arguments; with an error all other results are zero.
func TestAnyArguments(t *testing.T) {
	r := rand.New(rand.NewSource(11))
	seen := map[api.Errno]int{}
	for range 20 * tries {
		need, l := make([]int, r.Intn(11)), make([]api.Pile, r.Intn(11))
		for i := range need {
			if need[i] = r.Intn(5); r.Intn(20) == 0 {
				need[i] = oddNumber(r)
			}
		}
		for i := range l {
			l[i] = api.Pile{Shades: r.Intn(8), Many: r.Intn(99)}
			if r.Intn(20) == 0 {
				l[i] = api.Pile{Shades: oddNumber(r), Many: oddNumber(r)}
			}
		}
		boxes, pile := oddNumber(r), oddNumber(r)
		n, proof, e := Most(need, l)
		if e != api.OK && (n != 0 || proof != 0) {
			t.Errorf("Most(%v, %v) = %d, %d, error %d", need, l, n, proof, e)
		}
		rows, e := Fill(need, l, boxes)
		if e != api.OK && rows != nil {
			t.Errorf("Fill(%v, %v, %d) = %v, error %d", need, l, boxes, rows, e)
		}
		seen[e]++
		s, e := Use(need, l, boxes, pile)
		if e != api.OK && s != span(0, 0) {
			t.Errorf("Use(%v, %v, %d, %d) = %v, error %d", need, l, boxes, pile, s, e)
		}
		set, pencils, e := Lack(need, l, boxes)
		if e != api.OK && (set != 0 || pencils != 0) {
			t.Errorf("Lack(%v, %v, %d) = %d, %d, error %d", need, l, boxes, set, pencils, e)
		}
	}
	if min(seen[api.OK], seen[api.ErrArg], seen[api.ErrRange], seen[api.ErrShort]) < tries/4 {
		t.Errorf("only some kinds of arguments are tested: %v", seen)
	}
}
