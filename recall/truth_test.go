package recall

import (
	"math/bits"
	"math/rand"
	"testing"

	"pencilworks/api"
)

// tries is how often a property is tried.
const tries = 3000

// table tells of each batch from which ones it comes; it is filled row by row, from the first batch on.
type table [api.MaxBatches][api.MaxBatches]bool

func tableOf(l []api.Batch) (t table) {
	for i, b := range l {
		t[i][i] = true
		for j := range i {
			for k := range i {
				t[i][k] = t[i][k] || b.From&(1<<j) != 0 && t[j][k]
			}
		}
	}
	return t
}

// having returns the set of so many batches of which something is so.
func having(many int, so func(int) bool) (s int) {
	for i := range many {
		if so(i) {
			s |= 1 << i
		}
	}
	return s
}

// ancestors returns what a batch comes from.
func (t table) ancestors(batch int) int {
	return having(len(t), func(i int) bool { return t[batch][i] })
}

// issue returns what comes from a batch.
func (t table) issue(batch int) int {
	return having(len(t), func(i int) bool { return t[i][batch] })
}

// soldOf returns how many pencils were sold of a set of batches.
func soldOf(l []api.Batch, set int) (n int) {
	for i, b := range l {
		if set&(1<<i) != 0 {
			n += b.Sold
		}
	}
	return n
}

// anyCards returns at most so many cards. They differ in how many of those before it a batch is made of; some have batches that are made only of the first ones, which are made of none.
func anyCards(r *rand.Rand, most int) (l []api.Batch) {
	many := max(1+r.Intn(most), 1+r.Intn(most))
	rare, unsold, sacks, flat := 1+r.Intn(9), 1+r.Intn(4), r.Intn(many), r.Intn(3) == 0
	pencils := []int{1, 9, api.MaxMany}[r.Intn(3)]
	for i := range many {
		b := api.Batch{From: having(i, func(j int) bool { return r.Intn(rare) == 0 && (!flat || j < sacks) })}
		if i < sacks {
			b.From = 0
		}
		if r.Intn(unsold) == 0 {
			b.Sold = r.Intn(pencils + 1)
		}
		l = append(l, b)
	}
	return l
}

// partOf returns a part of a set, of about one in so many of its batches.
func partOf(r *rand.Rand, set, rare int) int {
	return set & having(bits.Len(uint(set)), func(int) bool { return r.Intn(rare) == 0 })
}

// anyComplaint returns bad batches, all of which come from a culprit, and good ones, none of which does.
func anyComplaint(r *rand.Rand, l []api.Batch, culprit int) (bad, good int) {
	issue := tableOf(l).issue(culprit)
	for bad == 0 {
		bad = partOf(r, issue, 1+r.Intn(6))
	}
	return bad, partOf(r, (1<<len(l)-1)&^issue, 1+r.Intn(6))
}

// P11.1, P11.6: what a batch comes from, and what comes from it, is what the table says; so a batch comes from another one just if this leads ahead to it.
func TestBackAndAheadOfAnyCards(t *testing.T) {
	r := rand.New(rand.NewSource(1))
	far := 0
	for range tries {
		l := anyCards(r, api.MaxBatches)
		x := tableOf(l)
		for i := range l {
			s, e := Back(l, i)
			if s != x.ancestors(i) || e != api.OK {
				t.Errorf("Back(%v, %d) = %b, error %d, not %b", l, i, s, e, x.ancestors(i))
			}
			a, e := Ahead(l, i)
			if a != x.issue(i) || e != api.OK {
				t.Errorf("Ahead(%v, %d) = %b, error %d, not %b", l, i, a, e, x.issue(i))
			}
			for j := range l {
				if b, _ := Back(l, j); (a&(1<<j) != 0) != (b&(1<<i) != 0) {
					t.Errorf("%v: Ahead of %d is %b, but Back of %d is %b", l, i, a, j, b)
				}
			}
			if s != l[i].From|1<<i {
				far++
			}
		}
	}
	if far < tries {
		t.Errorf("only %d batches are tested that come from others by way of others", far)
	}
}

// expectComplaint expects that Blame and Recall return what the table says: batches are tried one by one. It returns the error.
func expectComplaint(t *testing.T, l []api.Batch, bad, good int) api.Errno {
	t.Helper()
	x := tableOf(l)
	can, back, n, want := 0, 0, span(0, 0), api.ErrState
	for i := range l {
		issue := x.issue(i)
		if bad&^issue != 0 || good&issue != 0 {
			continue
		}
		sold := soldOf(l, issue)
		if want != api.OK {
			n, want = span(sold, sold), api.OK
		}
		n = span(min(n.Lo, sold), max(n.Hi, sold))
		can |= 1 << i
		back |= issue & having(len(l), func(j int) bool { return l[j].Sold != 0 })
	}
	if bad == 0 {
		can, back, n, want = 0, 0, span(0, 0), api.ErrNone
	}
	if s, e := Blame(l, bad, good); s != can || e != want {
		t.Errorf("Blame(%v, %b, %b) = %b, error %d, not %b, error %d", l, bad, good, s, e, can, want)
	}
	if s, m, e := Recall(l, bad, good); s != back || m != n || e != want {
		t.Errorf("Recall(%v, %b, %b) = %b, %v, error %d, not %b, %v, error %d", l, bad, good, s, m, e, back, n, want)
	}
	return want
}

// allCards calls a function with all cards of so many batches, each of which was sold in another number, or not at all.
func allCards(many int, see func(l []api.Batch)) {
	l := make([]api.Batch, many)
	var next func(i int)
	next = func(i int) {
		if i == many {
			see(l)
			return
		}
		for from := range 1 << i {
			for _, sold := range []int{0, 1 << i} {
				l[i] = api.Batch{From: from, Sold: sold}
				next(i + 1)
			}
		}
	}
	next(0)
}

// P11.2, P11.3: all complaints of all cards of up to four batches.
func TestAllComplaints(t *testing.T) {
	seen := map[api.Errno]int{}
	for many := range 5 {
		allCards(many, func(l []api.Batch) {
			for bad := range 1 << many {
				for good := range 1 << many {
					seen[expectComplaint(t, l, bad, good)]++
				}
			}
		})
	}
	if min(seen[api.OK], seen[api.ErrNone], seen[api.ErrState]) < tries {
		t.Errorf("only some kinds of complaints are tested: %v", seen)
	}
}

// P11.2, P11.3: complaints of up to 24 batches; some have a culprit, and some need not.
func TestAnyComplaint(t *testing.T) {
	r := rand.New(rand.NewSource(2))
	seen := map[api.Errno]int{}
	for range tries {
		l := anyCards(r, api.MaxBatches)
		bad, good := anyComplaint(r, l, r.Intn(len(l)))
		expectComplaint(t, l, bad, good)
		seen[expectComplaint(t, l, bad|1<<r.Intn(len(l)), good|1<<r.Intn(len(l)))]++
	}
	if min(seen[api.OK], seen[api.ErrState]) < tries/10 {
		t.Errorf("only some kinds of complaints are tested: %v", seen)
	}
}

// P11.6: whichever batch is truly to blame can be; all that truly is bad and was sold is called back, and how many they are is in the span; and what is called back was sold, and comes from a batch that can be to blame.
func TestWhicheverIsToBlame(t *testing.T) {
	r := rand.New(rand.NewSource(3))
	seen := map[bool]int{}
	for range tries {
		l := anyCards(r, api.MaxBatches)
		culprit := r.Intn(len(l))
		bad, good := anyComplaint(r, l, culprit)
		can, e := Blame(l, bad, good)
		if can&(1<<culprit) == 0 || e != api.OK {
			t.Errorf("Blame(%v, %b, %b) = %b, error %d, but it is %d", l, bad, good, can, e, culprit)
		}
		back, n, e := Recall(l, bad, good)
		truly, _ := Ahead(l, culprit)
		if e != api.OK || soldOf(l, truly&^back) != 0 || soldOf(l, truly) < n.Lo || soldOf(l, truly) > n.Hi {
			t.Errorf("Recall(%v, %b, %b) = %b, %v, error %d, but it is %d", l, bad, good, back, n, e, culprit)
		}
		for i := range l {
			from, _ := Back(l, i)
			if back&(1<<i) != 0 && (l[i].Sold == 0 || from&can == 0) {
				t.Errorf("Recall(%v, %b, %b) = %b, but %d is not concerned", l, bad, good, back, i)
			}
		}
		seen[can == 1<<culprit]++
	}
	if min(seen[true], seen[false]) < tries/10 {
		t.Errorf("only some kinds of complaints are tested: %v", seen)
	}
}

// P11.6: with more bad ones, or more good ones, no more batches can be to blame, and no more are called back.
func TestMoreIsKnown(t *testing.T) {
	r := rand.New(rand.NewSource(4))
	fewer := 0
	for range tries {
		l := anyCards(r, api.MaxBatches)
		bad, good := anyComplaint(r, l, r.Intn(len(l)))
		can, _ := Blame(l, bad, good)
		back, _, _ := Recall(l, bad, good)
		more := 1 << r.Intn(len(l))
		for _, c := range [][2]int{{bad | more, good}, {bad, good | more}} {
			s, _ := Blame(l, c[0], c[1])
			b, _, _ := Recall(l, c[0], c[1])
			if s&^can != 0 || b&^back != 0 {
				t.Errorf("%v: with %b and %b there are %b and %b, with %b and %b %b and %b", l, bad, good, can, back, c[0], c[1], s, b)
			}
			if s != can {
				fewer++
			}
		}
	}
	if fewer < tries/10 {
		t.Errorf("only %d complaints are tested that become narrower", fewer)
	}
}

// oneOf returns a batch of a set that has one.
func oneOf(r *rand.Rand, set int) int {
	for {
		if i := r.Intn(bits.Len(uint(set))); set&(1<<i) != 0 {
			return i
		}
	}
}

// anySet returns a set of batches; in most of these sets all come from the same two batches.
func anySet(r *rand.Rand, l []api.Batch) int {
	if r.Intn(3) == 0 {
		return partOf(r, 1<<len(l)-1, 1+r.Intn(6))
	}
	x := tableOf(l)
	one := r.Intn(len(l))
	from := x.ancestors(one)
	if from != 1<<one {
		from &^= 1 << one
	}
	both := x.issue(oneOf(r, from)) & x.issue(oneOf(r, from))
	return 1<<one | 1<<oneOf(r, both) | partOf(r, both, 1+r.Intn(6))
}

// expectCommon expects that Common returns what the table says, and that from none of the last ones comes another one that all come from, but one of them from each of these. It returns how many last ones there are.
func expectCommon(t *testing.T, l []api.Batch, s int) int {
	t.Helper()
	x := tableOf(l)
	want, all, last := api.ErrNone, 0, 0
	if s != 0 {
		all = 1<<len(l) - 1
	}
	for i := range l {
		if s&(1<<i) != 0 {
			all &= x.ancestors(i)
		}
	}
	if all != 0 {
		want = api.OK
	}
	for i := range l {
		if all&x.issue(i) == 1<<i {
			last |= 1 << i
		}
	}
	a, b, e := Common(l, s)
	if a != all || b != last || e != want {
		t.Errorf("Common(%v, %b) = %b, %b, error %d, not %b, %b, error %d", l, s, a, b, e, all, last, want)
	}
	for i := range l {
		if a&(1<<i) != 0 && x.issue(i)&b == 0 {
			t.Errorf("Common(%v, %b) = %b, %b, but none of the last ones comes from %d", l, s, a, b, i)
		}
	}
	return bits.OnesCount(uint(last))
}

// P11.4: all sets of all cards of up to four batches.
func TestCommonOfAllSets(t *testing.T) {
	seen := map[int]int{}
	for many := range 5 {
		allCards(many, func(l []api.Batch) {
			for s := range 1 << many {
				seen[expectCommon(t, l, s)]++
			}
		})
	}
	if len(seen) != 3 {
		t.Errorf("only some kinds of sets are tested: %v", seen)
	}
}

// P11.4: sets of up to 24 batches.
func TestCommonOfAnySet(t *testing.T) {
	r := rand.New(rand.NewSource(5))
	seen := map[int]int{}
	for range tries {
		l := anyCards(r, api.MaxBatches)
		seen[min(2, expectCommon(t, l, anySet(r, l)))]++
	}
	if min(seen[0], seen[1], seen[2]) < tries/30 {
		t.Errorf("only some kinds of sets are tested: %v", seen)
	}
}

// P11.6: all bad ones have in common what can be to blame; without good ones it is all that they have in common.
func TestBlameIsCommon(t *testing.T) {
	r := rand.New(rand.NewSource(6))
	for range tries {
		l := anyCards(r, api.MaxBatches)
		bad, good := anyComplaint(r, l, r.Intn(len(l)))
		all, _, e := Common(l, bad)
		if can, _ := Blame(l, bad, good); can == 0 || can&^all != 0 || e != api.OK {
			t.Errorf("Blame(%v, %b, %b) = %b, but Common = %b, error %d", l, bad, good, can, all, e)
		}
		if can, _ := Blame(l, bad, 0); can != all {
			t.Errorf("Blame(%v, %b, 0) = %b, but Common = %b", l, bad, can, all)
		}
	}
}

// anyTurn returns another way to number cards, each after those that it comes from: the new number of each batch.
func anyTurn(r *rand.Rand, l []api.Batch) []int {
	to, placed := make([]int, len(l)), 0
	for n := range l {
		i := r.Intn(len(l))
		for placed&(1<<i) != 0 || l[i].From&^placed != 0 {
			i = r.Intn(len(l))
		}
		placed |= 1 << i
		to[i] = n
	}
	return to
}

// turned returns a set with the new numbers of its batches.
func turned(set int, to []int) (s int) {
	for i, n := range to {
		if set&(1<<i) != 0 {
			s |= 1 << n
		}
	}
	return s
}

// turnedCards returns cards with their new numbers.
func turnedCards(l []api.Batch, to []int) []api.Batch {
	m := make([]api.Batch, len(l))
	for i, b := range l {
		m[to[i]] = api.Batch{From: turned(b.From, to), Sold: b.Sold}
	}
	return m
}

// P11.6: if cards are numbered in another way, all sets are turned with them, and the pencils are as many.
func TestTurnedCards(t *testing.T) {
	r := rand.New(rand.NewSource(7))
	moved := 0
	for range tries {
		l := anyCards(r, api.MaxBatches)
		to := anyTurn(r, l)
		m := turnedCards(l, to)
		for i := range l {
			a, _ := Back(l, i)
			b, _ := Ahead(l, i)
			c, e := Back(m, to[i])
			d, f := Ahead(m, to[i])
			if c != turned(a, to) || d != turned(b, to) || e != api.OK || f != api.OK {
				t.Errorf("%v, %v: Back and Ahead of %d are %b and %b, turned %b and %b", l, to, i, a, b, c, d)
			}
			if to[i] != i {
				moved++
			}
		}
		bad, good := anyComplaint(r, l, r.Intn(len(l)))
		bad |= partOf(r, 1<<len(l)-1, 30)
		can, e := Blame(l, bad, good)
		if s, f := Blame(m, turned(bad, to), turned(good, to)); s != turned(can, to) || f != e {
			t.Errorf("%v, %v: Blame of %b and %b is %b, error %d, turned %b, error %d", l, to, bad, good, can, e, s, f)
		}
		back, n, e := Recall(l, bad, good)
		if s, k, f := Recall(m, turned(bad, to), turned(good, to)); s != turned(back, to) || k != n || f != e {
			t.Errorf("%v, %v: Recall of %b and %b is %b, %v, error %d, turned %b, %v, error %d", l, to, bad, good, back, n, e, s, k, f)
		}
		all, last, e := Common(l, bad)
		if a, b, f := Common(m, turned(bad, to)); a != turned(all, to) || b != turned(last, to) || f != e {
			t.Errorf("%v, %v: Common of %b is %b, %b, error %d, turned %b, %b, error %d", l, to, bad, all, last, e, a, b, f)
		}
	}
	if moved < tries*5 {
		t.Errorf("only %d batches are tested that have other numbers", moved)
	}
}
