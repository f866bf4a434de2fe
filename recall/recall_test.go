package recall

import (
	"math"
	"slices"
	"testing"

	"pencilworks/api"
)

func span(lo, hi int) api.Span { return api.Span{Lo: lo, Hi: hi} }

// set returns the set of some batches.
func set(l ...int) (s int) {
	for _, n := range l {
		s |= 1 << n
	}
	return s
}

// made returns a card of a batch that is made of some others.
func made(sold int, of ...int) api.Batch { return api.Batch{From: set(of...), Sold: sold} }

func cardsOf(l ...api.Batch) []api.Batch { return l }

// cards returns the cards of the chapter's examples.
func cards() []api.Batch {
	return cardsOf(made(0), made(0), made(0), made(0, 0, 1), made(0, 0, 2), made(0), made(100, 3, 5), made(50, 4, 5), made(30, 3))
}

// chain returns so many cards; each batch is made of the one before it.
func chain(many, sold int) (l []api.Batch) {
	for i := range many {
		l = append(l, made(sold))
		if i > 0 {
			l[i].From = set(i - 1)
		}
	}
	return l
}

// pile returns so many cards; each batch is made of all before it.
func pile(many int) (l []api.Batch) {
	for i := range many {
		l = append(l, api.Batch{From: 1<<i - 1})
	}
	return l
}

// diamond returns cards of which the batch 3 comes from the batch 0 in two ways.
func diamond() []api.Batch {
	return cardsOf(made(1), made(2, 0), made(4, 0), made(8, 1, 2))
}

// P11.1: the chapter's examples; what a batch comes from goes back to the first one, and what comes from it ahead to the last one; whatever lies beside is left out.
func TestBackAndAhead(t *testing.T) {
	for _, c := range []struct {
		name        string
		l           []api.Batch
		batch       int
		back, ahead int
	}{
		{"example of 6", cards(), 6, set(0, 1, 3, 5, 6), set(6)},
		{"example of 0", cards(), 0, set(0), set(0, 3, 4, 6, 7, 8)},
		{"example of 3", cards(), 3, set(0, 1, 3), set(3, 6, 8)},
		{"example of 5", cards(), 5, set(5), set(5, 6, 7)},
		{"the last one of the example", cards(), 8, set(0, 1, 3, 8), set(8)},
		{"the only one", cardsOf(made(7)), 0, set(0), set(0)},
		{"none is made of another", make([]api.Batch, 3), 1, set(1), set(1)},
		{"the first one of a chain", chain(24, 0), 0, set(0), 1<<24 - 1},
		{"one in a chain", chain(24, 0), 10, 1<<11 - 1, 1<<24 - 1<<10},
		{"the last one of a chain", chain(24, 0), 23, 1<<24 - 1, set(23)},
		{"the first one of a pile", pile(24), 0, set(0), 1<<24 - 1},
		{"one in a pile", pile(24), 22, 1<<23 - 1, set(22, 23)},
		{"the last one of a pile", pile(24), 23, 1<<24 - 1, set(23)},
		{"the first one of a diamond", diamond(), 0, set(0), set(0, 1, 2, 3)},
		{"one side of a diamond", diamond(), 1, set(0, 1), set(1, 3)},
		{"the last one of a diamond", diamond(), 3, set(0, 1, 2, 3), set(3)},
		{"by way of others only", cardsOf(made(0), made(0), made(0, 1), made(0, 0), made(0, 2)), 1, set(1), set(1, 2, 4)},
		{"what is sold makes no difference", cardsOf(made(5), made(1<<20, 0), made(0, 1)), 1, set(0, 1), set(1, 2)},
	} {
		if s, e := Back(c.l, c.batch); s != c.back || e != api.OK {
			t.Errorf("%s: Back = %b, error %d, not %b", c.name, s, e, c.back)
		}
		if s, e := Ahead(c.l, c.batch); s != c.ahead || e != api.OK {
			t.Errorf("%s: Ahead = %b, error %d, not %b", c.name, s, e, c.ahead)
		}
	}
}

// complaint is a complaint, and what Blame and Recall return of it.
type complaint struct {
	name                 string
	l                    []api.Batch
	bad, good, can, back int
	pencils              api.Span
	e                    api.Errno
}

func complaints() []complaint {
	return []complaint{
		{"example of 6 and 7", cards(), set(6), set(7), set(1, 3, 6), set(6, 8), span(100, 130), api.OK},
		{"example of 6 8 and 7", cards(), set(6, 8), set(7), set(1, 3), set(6, 8), span(130, 130), api.OK},
		{"example of 6 7 and 8", cards(), set(6, 7), set(8), set(5), set(6, 7), span(150, 150), api.OK},
		{"example of 6 and 6", cards(), set(6), set(6), 0, 0, span(0, 0), api.ErrState},
		{"example of 6 and none", cards(), set(6), 0, set(0, 1, 3, 5, 6), set(6, 7, 8), span(100, 180), api.OK},
		{"nothing is bad", cards(), 0, 0, 0, 0, span(0, 0), api.ErrNone},
		{"all is good", cards(), 0, 1<<9 - 1, 0, 0, span(0, 0), api.ErrNone},
		{"all is bad", cards(), 1<<9 - 1, 0, 0, 0, span(0, 0), api.ErrState},
		{"all is bad, and good", cards(), 1<<9 - 1, 1<<9 - 1, 0, 0, span(0, 0), api.ErrState},
		{"two that have nothing in common", cards(), set(1, 2), 0, 0, 0, span(0, 0), api.ErrState},
		{"what is good comes from what is bad", cards(), set(3), set(8), 0, 0, span(0, 0), api.ErrState},
		{"what is bad comes from what is good", cards(), set(8), set(3), set(8), set(8), span(30, 30), api.OK},
		{"a bad sack", cards(), set(2), 0, set(2), set(7), span(50, 50), api.OK},
		{"a bad sack, and bad pencils of it", cards(), set(0, 7, 8), 0, set(0), set(6, 7, 8), span(180, 180), api.OK},
		{"one good batch clears what two have in common", cards(), set(6, 8), set(3), 0, 0, span(0, 0), api.ErrState},
		{"one of two good ones clears", cards(), set(6), set(2, 8), set(5, 6), set(6, 7), span(100, 150), api.OK},
		{"each of two good ones clears", cards(), set(6), set(7, 8), set(6), set(6), span(100, 100), api.OK},
		{"only the first one can be", diamond(), set(1, 2), 0, set(0), set(0, 1, 2, 3), span(15, 15), api.OK},
		{"all of a diamond can be", diamond(), set(3), 0, set(0, 1, 2, 3), set(0, 1, 2, 3), span(8, 15), api.OK},
		{"one side of a diamond is good", diamond(), set(3), set(1), set(2, 3), set(2, 3), span(8, 12), api.OK},
		{"the only batch", cardsOf(made(7)), set(0), 0, set(0), set(0), span(7, 7), api.OK},
		{"the only batch, of which none was sold", cardsOf(made(0)), set(0), 0, set(0), 0, span(0, 0), api.OK},
		{"none of a bad one was sold, but of what comes from what it was made of", cardsOf(made(0), made(0, 0), made(1, 0)), set(1), 0, set(0, 1), set(2), span(0, 1), api.OK},
		{"what was sold before it was used", cardsOf(made(9), made(2, 0), made(0, 1)), set(2), 0, set(0, 1, 2), set(0, 1), span(0, 11), api.OK},
		{"the least number is not the last one's", cardsOf(made(0), made(9), made(5, 0, 1)), set(2), 0, set(0, 1, 2), set(1, 2), span(5, 14), api.OK},
		{"a span that neither the first nor the last one ends", cardsOf(made(2), made(8), made(0), made(3, 0, 1, 2), made(0, 3)), set(4), 0, set(0, 1, 2, 3, 4), set(0, 1, 3), span(0, 11), api.OK},
		{"all of a chain", chain(24, 1), set(23), 0, 1<<24 - 1, 1<<24 - 1, span(1, 24), api.OK},
		{"a chain that is good up to a batch", chain(24, 1), set(20), set(9), 1<<21 - 1<<10, 1<<24 - 1<<10, span(4, 14), api.OK},
		{"the most pencils", chain(24, 1<<20), set(0), 0, set(0), 1<<24 - 1, span(24<<20, 24<<20), api.OK},
		{"the last of 24", make([]api.Batch, 24), set(23), 1<<23 - 1, set(23), 0, span(0, 0), api.OK},
	}
}

// P11.2: the chapter's examples; all bad ones come from what can be to blame, and no good one; of nothing bad there is ErrNone, whatever is good.
func TestBlame(t *testing.T) {
	for _, c := range complaints() {
		if s, e := Blame(c.l, c.bad, c.good); s != c.can || e != c.e {
			t.Errorf("%s: Blame = %b, error %d, not %b, error %d", c.name, s, e, c.can, c.e)
		}
	}
}

// P11.3: the chapter's examples; only batches of which some were sold are called back, and those of all that can be to blame; the span is of what comes from one of them at a time.
func TestRecall(t *testing.T) {
	for _, c := range complaints() {
		if s, n, e := Recall(c.l, c.bad, c.good); s != c.back || n != c.pencils || e != c.e {
			t.Errorf("%s: Recall = %b, %v, error %d, not %b, %v, error %d", c.name, s, n, e, c.back, c.pencils, c.e)
		}
	}
}

// P11.4: the chapter's examples; a set of one batch, batches that come from each other, and those that have several last ones, or none.
func TestCommon(t *testing.T) {
	for _, c := range []struct {
		name           string
		l              []api.Batch
		set, all, last int
		e              api.Errno
	}{
		{"example of 6 7", cards(), set(6, 7), set(0, 5), set(0, 5), api.OK},
		{"example of 6 8", cards(), set(6, 8), set(0, 1, 3), set(3), api.OK},
		{"example of 6", cards(), set(6), set(0, 1, 3, 5, 6), set(6), api.OK},
		{"example of 1 2", cards(), set(1, 2), 0, 0, api.ErrNone},
		{"no batches", cards(), 0, 0, 0, api.ErrNone},
		{"all batches", cards(), 1<<9 - 1, 0, 0, api.ErrNone},
		{"three of them", cards(), set(6, 7, 8), set(0), set(0), api.OK},
		{"one comes from the other", cards(), set(3, 6), set(0, 1, 3), set(3), api.OK},
		{"one comes from the other by way of a third", cards(), set(0, 6), set(0), set(0), api.OK},
		{"the first one alone", cards(), set(0), set(0), set(0), api.OK},
		{"two have something in common, but not with a third", cards(), set(5, 6, 8), 0, 0, api.ErrNone},
		{"a last one with a lesser number than one before a second last one", cardsOf(made(0), made(0), made(0, 1), made(0, 0, 2), made(0, 0, 2)), set(3, 4), set(0, 1, 2), set(0, 2), api.OK},
		{"both sides of a diamond", diamond(), set(1, 2), set(0), set(0), api.OK},
		{"all of a diamond", diamond(), set(0, 1, 2, 3), set(0), set(0), api.OK},
		{"the last one of a diamond", diamond(), set(3), set(0, 1, 2, 3), set(3), api.OK},
		{"two of a chain", chain(24, 0), set(11, 23), 1<<12 - 1, set(11), api.OK},
		{"all of a chain", chain(24, 0), 1<<24 - 1, set(0), set(0), api.OK},
		{"the last two of a pile", pile(24), set(22, 23), 1<<23 - 1, set(22), api.OK},
		{"two that were made of the same", append(make([]api.Batch, 22), api.Batch{From: 1<<22 - 1}, api.Batch{From: 1<<22 - 1}), set(22, 23), 1<<22 - 1, 1<<22 - 1, api.OK},
		{"the only batch", cardsOf(made(7)), set(0), set(0), set(0), api.OK},
	} {
		if all, last, e := Common(c.l, c.set); all != c.all || last != c.last || e != c.e {
			t.Errorf("%s: Common = %b, %b, error %d, not %b, %b, error %d", c.name, all, last, e, c.all, c.last, c.e)
		}
	}
}

// expectError expects that all functions return an error for a batch and two sets, and nothing else.
func expectError(t *testing.T, name string, l []api.Batch, batch, bad, good int, want api.Errno) {
	t.Helper()
	if s, e := Back(l, batch); s != 0 || e != want {
		t.Errorf("%s: Back = %d, error %d, not %d", name, s, e, want)
	}
	if s, e := Ahead(l, batch); s != 0 || e != want {
		t.Errorf("%s: Ahead = %d, error %d, not %d", name, s, e, want)
	}
	if s, e := Blame(l, bad, good); s != 0 || e != want {
		t.Errorf("%s: Blame = %d, error %d, not %d", name, s, e, want)
	}
	if s, n, e := Recall(l, bad, good); s != 0 || n != span(0, 0) || e != want {
		t.Errorf("%s: Recall = %d, %v, error %d, not %d", name, s, n, e, want)
	}
	if all, last, e := Common(l, bad|good); all != 0 || last != 0 || e != want {
		t.Errorf("%s: Common = %d, %d, error %d, not %d", name, all, last, e, want)
	}
}

// expectErrArg expects that cards are not valid, whatever is asked of them.
func expectErrArg(t *testing.T, name string, l []api.Batch) {
	t.Helper()
	expectError(t, name, l, 0, set(0), 0, api.ErrArg)
	expectError(t, name+", and no batch, and no set", l, -1, -1, 1<<25, api.ErrArg)
	expectError(t, name+", and nothing bad", l, len(l), 0, 0, api.ErrArg)
}

// expectValid expects that cards are valid.
func expectValid(t *testing.T, name string, l []api.Batch) {
	t.Helper()
	_, back := Back(l, 0)
	_, ahead := Ahead(l, 0)
	_, blame := Blame(l, set(0), 0)
	_, _, recall := Recall(l, set(0), 0)
	_, _, common := Common(l, set(0))
	if got := []api.Errno{back, ahead, blame, recall, common}; !slices.Equal(got, make([]api.Errno, 5)) {
		t.Errorf("%s: the errors %v", name, got)
	}
}

// P11.1 to P11.4, R1: all functions return ErrArg for cards that are not valid, whichever one is wrong, before all other errors; both ends of what is valid are.
func TestErrArg(t *testing.T) {
	for i := range cards() {
		change := func(from, sold int) []api.Batch {
			l := cards()
			l[i] = api.Batch{From: from, Sold: sold}
			return l
		}
		for _, from := range []int{-1, 1 << i, 1<<i + 1, 1<<(i+1) - 1, 1 << 9, 1 << 24, 1 << 62, math.MinInt, math.MinInt + 1, math.MaxInt} {
			expectErrArg(t, "a wrong From", change(from, 0))
		}
		for _, sold := range []int{-1, 1<<20 + 1, math.MinInt, math.MaxInt} {
			expectErrArg(t, "a wrong Sold", change(0, sold))
		}
		expectValid(t, "the most of both", change(1<<i-1, 1<<20))
		expectValid(t, "the least of both", change(0, 0))
	}
}

// P11.1 to P11.4, R7: 24 cards are valid, and 25 are not.
func TestHowMany(t *testing.T) {
	expectValid(t, "24 cards", make([]api.Batch, 24))
	expectErrArg(t, "25 cards", make([]api.Batch, 25))
	expectErrArg(t, "25 cards of a pile", pile(25))
	expectErrArg(t, "far too many", make([]api.Batch, 1000))
}

// P11.1 to P11.4, R1: a batch that there is not, and a set with one, are ErrRange, before ErrNone and ErrState.
func TestErrRange(t *testing.T) {
	for _, l := range [][]api.Batch{cards(), chain(1, 0), chain(23, 0), chain(24, 1)} {
		wrong := []int{-1, 1 << len(l), 1<<len(l) + 1, 1 << 62, math.MinInt, math.MaxInt}
		for _, s := range wrong {
			for _, other := range append(wrong, 0, set(0)) {
				expectError(t, "a wrong bad set", l, len(l), s, other, api.ErrRange)
				expectError(t, "a wrong good set", l, -1, other, s, api.ErrRange)
			}
			expectError(t, "a wrong good set that is bad too", l, math.MinInt, set(0)|s, set(0)|s, api.ErrRange)
		}
		for _, batch := range []int{-1, len(l), 62, 63, 64, math.MinInt, math.MaxInt} {
			expectError(t, "a wrong batch", l, batch, -1, -1, api.ErrRange)
		}
	}
}

// R4: no argument is changed.
func TestArguments(t *testing.T) {
	l := cards()
	for batch := range l {
		Back(l, batch)
		Ahead(l, batch)
		Blame(l, set(batch), set(7))
		Recall(l, set(batch), set(7))
		Common(l, set(batch, 6))
	}
	if !slices.Equal(l, cards()) {
		t.Errorf("the cards are changed: %v", l)
	}
}

// R3: nil cards and empty ones are the same: there is no batch, and only the empty set.
func TestNil(t *testing.T) {
	for _, l := range [][]api.Batch{nil, {}, cards()[:0]} {
		expectError(t, "a batch of none", l, 0, set(0), 0, api.ErrRange)
		expectError(t, "a good one of none", l, -1, 0, set(0), api.ErrRange)
		if s, e := Blame(l, 0, 0); s != 0 || e != api.ErrNone {
			t.Errorf("Blame = %d, error %d", s, e)
		}
		if s, n, e := Recall(l, 0, 0); s != 0 || n != span(0, 0) || e != api.ErrNone {
			t.Errorf("Recall = %d, %v, error %d", s, n, e)
		}
		if all, last, e := Common(l, 0); all != 0 || last != 0 || e != api.ErrNone {
			t.Errorf("Common = %d, %d, error %d", all, last, e)
		}
	}
}
