package xray

import (
	"math/rand"
	"slices"
	"testing"

	"pencilworks/api"
)

// tries is how often a property is tried.
const tries = 1000

// spoilt is what may be true: which rows and which columns are spoilt.
type spoilt struct{ rows, cols []bool }

// isBad tells whether the pencils at a place are bad.
func (u spoilt) isBad(row, col int) bool { return u.rows[row] || u.cols[col] }

// bad returns how many pencils of a crate are bad.
func (u spoilt) bad(c api.Crate) int {
	many := 0
	for row, each := range c.Rows {
		for col := range c.Cols {
			if u.isBad(row, col) {
				many += each
			}
		}
	}
	return many
}

// fits tells whether all looks can be seen.
func (u spoilt) fits(l []api.Look) bool {
	for _, x := range l {
		if x.Seen == api.SeenGood && u.isBad(x.Row, x.Col) || x.Seen == api.SeenBad && !u.isBad(x.Row, x.Col) {
			return false
		}
	}
	return true
}

// choices returns all ways in which at most so many of some things can be spoilt.
func choices(things, most int) [][]bool {
	if things == 0 {
		return [][]bool{nil}
	}
	var all [][]bool
	for _, l := range choices(things-1, most) {
		all = append(all, append(slices.Clone(l), false))
	}
	if most > 0 {
		for _, l := range choices(things-1, most-1) {
			all = append(all, append(slices.Clone(l), true))
		}
	}
	return all
}

// allTruths returns all that may be true of a crate.
func allTruths(c api.Crate) (all []spoilt) {
	for _, rows := range choices(len(c.Rows), c.Clamps) {
		for _, cols := range choices(c.Cols, c.Dies) {
			all = append(all, spoilt{rows, cols})
		}
	}
	return all
}

// anyCrate returns a crate with at most so many rows and columns.
func anyCrate(r *rand.Rand, rows, cols int) api.Crate {
	c := api.Crate{Cols: 1 + r.Intn(cols), Clamps: r.Intn(4), Dies: r.Intn(4)}
	for range 1 + r.Intn(rows) {
		c.Rows = append(c.Rows, 1+r.Intn([]int{2, 10, 1000}[r.Intn(3)]))
	}
	return c
}

// anyTruth returns what may be true of a crate.
func anyTruth(r *rand.Rand, c api.Crate) spoilt {
	u := spoilt{make([]bool, len(c.Rows)), make([]bool, c.Cols)}
	for range r.Intn(c.Clamps + 1) {
		u.rows[r.Intn(len(u.rows))] = true
	}
	for range r.Intn(c.Dies + 1) {
		u.cols[r.Intn(len(u.cols))] = true
	}
	return u
}

func anyPlace(r *rand.Rand, c api.Crate) (row, col int) {
	return r.Intn(len(c.Rows)), r.Intn(c.Cols)
}

// anyLook returns a look that shows what is true, if it shows anything.
func anyLook(r *rand.Rand, c api.Crate, u spoilt) api.Look {
	row, col := anyPlace(r, c)
	switch {
	case r.Intn(5) == 0:
		return isHidden(row, col)
	case u.isBad(row, col):
		return isBad(row, col)
	}
	return isGood(row, col)
}

// trueLooks returns looks at a crate that show what is true.
func trueLooks(r *rand.Rand, c api.Crate, u spoilt) (l []api.Look) {
	for range r.Intn(10) {
		l = append(l, anyLook(r, c, u))
	}
	return l
}

// anyLooks returns looks at a crate, some of which may not show what is true.
func anyLooks(r *rand.Rand, c api.Crate) []api.Look {
	l := trueLooks(r, c, anyTruth(r, c))
	if r.Intn(3) == 0 {
		row, col := anyPlace(r, c)
		l = append(l, api.Look{Row: row, Col: col, Seen: r.Intn(2)})
	}
	return l
}

// anySample returns at most so many places of a crate.
func anySample(r *rand.Rand, c api.Crate, most int) (l []api.Spot) {
	for range r.Intn(most + 1) {
		row, col := anyPlace(r, c)
		l = append(l, api.Spot{Row: row, Col: col})
	}
	return l
}

// known is all that the package tells of a crate after some looks.
type known struct {
	bad    api.Span
	found  api.Found
	judged []int // by rows, then by columns
	e      api.Errno
}

// told returns what the package tells.
func told(t *testing.T, c api.Crate, l []api.Look) known {
	t.Helper()
	var k known
	k.bad, k.e = Count(c, l)
	var e api.Errno
	if k.found, e = Causes(c, l); e != k.e {
		t.Errorf("Causes(%v, %v): error %d, but of Count %d", c, l, e, k.e)
	}
	for row := range c.Rows {
		for col := range c.Cols {
			n, e := Judge(c, l, row, col)
			if e != k.e {
				t.Errorf("Judge(%v, %v, %d, %d): error %d, but of Count %d", c, l, row, col, e, k.e)
			}
			k.judged = append(k.judged, n)
		}
	}
	return k
}

// isLike tells whether the same is known.
func (k known) isLike(other known) bool {
	return k.bad == other.bad && k.found == other.found && slices.Equal(k.judged, other.judged) && k.e == other.e
}

// reckoned returns what should be told, of all truths, one by one.
func reckoned(c api.Crate, l []api.Look) known {
	k := known{judged: make([]int, len(c.Rows)*c.Cols), e: api.ErrState}
	badIn := make([]int, len(k.judged))
	fit := 0
	for _, u := range allTruths(c) {
		if !u.fits(l) {
			continue
		}
		n, rows, cols := u.bad(c), bitsOf(u.rows), bitsOf(u.cols)
		if fit == 0 {
			k.bad, k.found, k.e = span(n, n), api.Found{SureRows: rows, SureCols: cols}, api.OK
		}
		fit++
		k.bad = span(min(k.bad.Lo, n), max(k.bad.Hi, n))
		k.found = api.Found{CanRows: k.found.CanRows | rows, CanCols: k.found.CanCols | cols, SureRows: k.found.SureRows & rows, SureCols: k.found.SureCols & cols}
		for i := range badIn {
			if u.isBad(i/c.Cols, i%c.Cols) {
				badIn[i]++
			}
		}
	}
	for i, n := range badIn {
		switch {
		case n == 0:
			k.judged[i] = api.BadNever
		case n == fit:
			k.judged[i] = api.BadAlways
		default:
			k.judged[i] = api.BadPerhaps
		}
	}
	return k
}

func bitsOf(l []bool) int {
	set := 0
	for i, is := range l {
		if is {
			set |= 1 << i
		}
	}
	return set
}

// P6.1 to P6.3, P6.6: what is told is just what is so in all truths, so that both ends of each span are reached.
func TestAllThatIsTold(t *testing.T) {
	r := rand.New(rand.NewSource(1))
	seen := map[string]int{}
	for i := range tries {
		most := 5
		if i%100 == 0 {
			most = api.MaxRows
		}
		c := anyCrate(r, most, most)
		l := anyLooks(r, c)
		want, got := reckoned(c, l), told(t, c, l)
		if !got.isLike(want) {
			t.Errorf("of %v with %v is told %v, not %v", c, l, got, want)
		}
		switch {
		case want.e != api.OK:
			seen["no truth"]++
			continue
		case want.found.SureRows|want.found.SureCols != 0:
			seen["sure"]++
		case slices.Contains(want.judged, api.BadAlways):
			seen["always, but no line is sure"]++
		}
		if want.bad.Lo < want.bad.Hi {
			seen["not known"]++
		}
		if slices.Contains(want.judged, api.BadPerhaps) && slices.Contains(want.judged, api.BadNever) {
			seen["perhaps and never"]++
		}
	}
	if min(seen["no truth"], seen["sure"], seen["always, but no line is sure"], seen["not known"], seen["perhaps and never"]) < tries/20 {
		t.Errorf("only some kinds of results are tested: %v", seen)
	}
}

// P3, P6.6: whatever is spoilt, what is told contains it, if the looks show what is true.
func TestTrueCrate(t *testing.T) {
	r := rand.New(rand.NewSource(2))
	for range tries / 4 {
		c := anyCrate(r, api.MaxRows, api.MaxCols)
		u := anyTruth(r, c)
		l := trueLooks(r, c, u)
		k := told(t, c, l)
		n, rows, cols := u.bad(c), bitsOf(u.rows), bitsOf(u.cols)
		f := k.found
		if k.e != api.OK || n < k.bad.Lo || n > k.bad.Hi || rows&^f.CanRows != 0 || cols&^f.CanCols != 0 || f.SureRows&^rows != 0 || f.SureCols&^cols != 0 {
			t.Errorf("of %v with %v is told %v, but %d are bad: %v", c, l, k, n, u)
		}
		for i, judged := range k.judged {
			if isBad := u.isBad(i/c.Cols, i%c.Cols); judged == api.BadAlways && !isBad || judged == api.BadNever && isBad {
				t.Errorf("Judge(%v, %v, %d, %d) = %d, but %v", c, l, i/c.Cols, i%c.Cols, judged, u)
			}
		}
	}
}

// areGood returns looks that show that all places of a sample are good.
func areGood(sample []api.Spot) (l []api.Look) {
	for _, s := range sample {
		l = append(l, isGood(s.Row, s.Col))
	}
	return l
}

// P6.4, P6.6: a sample misses as many as are bad in the worst truth in which all that it looks at is good, and Count says so too.
func TestMissedIsTheWorst(t *testing.T) {
	r := rand.New(rand.NewSource(3))
	none, some := 0, 0
	for i := range tries {
		most := 5
		if i%100 == 0 {
			most = api.MaxRows
		}
		c := anyCrate(r, most, most)
		sample := anySample(r, c, most+1)
		l := areGood(sample)
		want := 0
		for _, u := range allTruths(c) {
			if u.fits(l) {
				want = max(want, u.bad(c))
			}
		}
		if n, e := Missed(c, sample); n != want || e != api.OK {
			t.Errorf("Missed(%v, %v) = %d, error %d, not %d", c, sample, n, e, want)
		}
		if s, e := Count(c, l); s != span(0, want) || e != api.OK {
			t.Errorf("Count(%v, %v) = %v, error %d, but %d can be missed", c, l, s, e, want)
		}
		if want == 0 {
			none++
		} else if len(sample) > 0 {
			some++
		}
	}
	if min(none, some) < tries/20 {
		t.Errorf("only some kinds of results are tested: %d none, %d some", none, some)
	}
}

// missedBy returns how many bad pencils a sample misses at most.
func missedBy(t *testing.T, c api.Crate, sample []api.Spot) int {
	t.Helper()
	n, e := Missed(c, sample)
	if e != api.OK {
		t.Fatalf("Missed(%v, %v): error %d", c, sample, e)
	}
	return n
}

// fewestOf returns the fewest places with which at most so many are missed.
func fewestOf(t *testing.T, c api.Crate, most int) []api.Spot {
	t.Helper()
	l, e := Fewest(c, most)
	if e != api.OK {
		t.Fatalf("Fewest(%v, %d): error %d", c, most, e)
	}
	return l
}

// firstOfAll returns the first sample of so many places that misses at most so many, if there is one, of all samples, one by one.
func firstOfAll(t *testing.T, c api.Crate, size, most int) ([]api.Spot, bool) {
	var grow func(l []api.Spot, from int) ([]api.Spot, bool)
	grow = func(l []api.Spot, from int) ([]api.Spot, bool) {
		if len(l) == size {
			return l, missedBy(t, c, l) <= most
		}
		for n := from; n < len(c.Rows)*c.Cols; n++ {
			if full, ok := grow(append(slices.Clone(l), api.Spot{Row: n / c.Cols, Col: n % c.Cols}), n+1); ok {
				return full, true
			}
		}
		return nil, false
	}
	return grow(nil, 0)
}

// mayMiss returns how many bad pencils may be missed in a crate; often just as many as some sample of at most so many places misses.
func mayMiss(t *testing.T, r *rand.Rand, c api.Crate, places int) int {
	n := missedBy(t, c, anySample(r, c, places))
	if r.Intn(3) == 0 {
		n = max(0, n-1)
	}
	return n
}

// P6.5, P6.7: no sample of fewer places does, and none of as many that comes first.
func TestNoFewerPlaces(t *testing.T) {
	r := rand.New(rand.NewSource(4))
	sizes := map[int]int{}
	for range tries / 2 {
		c := anyCrate(r, 4, 4)
		most := mayMiss(t, r, c, 10)
		got := fewestOf(t, c, most)
		for size := range len(got) {
			if l, ok := firstOfAll(t, c, size, most); ok {
				t.Errorf("Fewest(%v, %d) = %v, but %v does", c, most, got, l)
			}
		}
		if want, ok := firstOfAll(t, c, len(got), most); !ok || !slices.Equal(got, want) {
			t.Errorf("Fewest(%v, %d) = %v, not %v", c, most, got, want)
		}
		sizes[len(got)]++
	}
	if min(sizes[0], sizes[1], sizes[2], sizes[3], sizes[4]) < tries/50 {
		t.Errorf("only some sizes are tested: %v", sizes)
	}
}

// tail is what is open when a sample is partly chosen: the place from which it goes on, how many places are left to choose, and the rows and columns in which it has places already.
type tail struct{ from, left, rows, cols int }

// planner chooses samples place by place; it knows of each tail whether it can be completed.
type planner struct {
	c     api.Crate
	known map[tail]bool
	worst [][2]int // the rows and columns, by bits, of the truths that may not be missed
}

// newPlanner returns a planner of samples that miss at most so many bad pencils.
func newPlanner(c api.Crate, most int) planner {
	p := planner{c: c, known: map[tail]bool{}}
	for _, u := range allTruths(c) {
		if u.bad(c) > most {
			p.worst = append(p.worst, [2]int{bitsOf(u.rows), bitsOf(u.cols)})
		}
	}
	return p
}

// isDone tells whether a sample does that has places in some rows and columns.
func (p planner) isDone(rows, cols int) bool {
	for _, bits := range p.worst {
		if bits[0]&rows == 0 && bits[1]&cols == 0 {
			return false
		}
	}
	return true
}

// can tells whether a tail can be completed to a sample that does.
func (p planner) can(x tail) bool {
	if x.left == 0 {
		return p.isDone(x.rows, x.cols)
	}
	if x.from == len(p.c.Rows)*p.c.Cols {
		return false
	}
	is, ok := p.known[x]
	if !ok {
		is = p.can(x.taken(p.c)) || p.can(x.skipped())
		p.known[x] = is
	}
	return is
}

// taken returns what is open when the next place is taken.
func (x tail) taken(c api.Crate) tail {
	return tail{x.from + 1, x.left - 1, x.rows | 1<<(x.from/c.Cols), x.cols | 1<<(x.from%c.Cols)}
}

// skipped returns what is open when the next place is not taken.
func (x tail) skipped() tail {
	x.from++
	return x
}

// firstOf returns the first sample of so many places that does, if there is one.
func (p planner) firstOf(size int) (l []api.Spot, ok bool) {
	x := tail{left: size}
	if !p.can(x) {
		return nil, false
	}
	for x.left > 0 {
		if !p.can(x.taken(p.c)) {
			x = x.skipped()
			continue
		}
		l = append(l, api.Spot{Row: x.from / p.c.Cols, Col: x.from % p.c.Cols})
		x = x.taken(p.c)
	}
	return l, true
}

// P6.5, P6.7: the same in larger crates, in which not all samples can be looked at one by one.
func TestNoFewerPlacesInLargeCrates(t *testing.T) {
	r := rand.New(rand.NewSource(5))
	sizes := map[int]int{}
	const crates = 150
	for range crates {
		c := anyCrate(r, api.MaxRows, api.MaxCols)
		c.Clamps, c.Dies = max(1, c.Clamps), max(1, c.Dies)
		most := mayMiss(t, r, c, 16)
		p, got := newPlanner(c, most), fewestOf(t, c, most)
		if len(got) > 0 {
			if l, ok := p.firstOf(len(got) - 1); ok {
				t.Errorf("Fewest(%v, %d) = %v, but %v does", c, most, got, l)
			}
		}
		if want, ok := p.firstOf(len(got)); !ok || !slices.Equal(got, want) {
			t.Errorf("Fewest(%v, %d) = %v, not %v", c, most, got, want)
		}
		sizes[len(got)]++
	}
	if min(sizes[1]+sizes[2], sizes[3]+sizes[4], sizes[5]+sizes[6]+sizes[7]+sizes[8]) < crates/10 {
		t.Errorf("only some sizes are tested: %v", sizes)
	}
}

// P6.6, P6.7: what Fewest returns is a sample that does, also in the largest crates; with fewer that may be missed there are no fewer places.
func TestAllThatMayBeMissed(t *testing.T) {
	r := rand.New(rand.NewSource(6))
	byPlace := func(a, b api.Spot) int { return (a.Row-b.Row)*api.MaxCols + a.Col - b.Col }
	for range 20 {
		c := anyCrate(r, api.MaxRows, api.MaxCols)
		size := -1
		for most := missedBy(t, c, nil); most >= 0; most -= 1 + r.Intn(1+most/20) {
			l := fewestOf(t, c, most)
			if n := missedBy(t, c, l); n > most {
				t.Errorf("Fewest(%v, %d) = %v, but %d can be missed", c, most, l, n)
			}
			if !slices.IsSortedFunc(l, byPlace) || len(slices.Compact(slices.Clone(l))) != len(l) {
				t.Errorf("Fewest(%v, %d) = %v, which is not in order", c, most, l)
			}
			if len(l) < size {
				t.Errorf("Fewest(%v, %d) = %v, but %d places are needed for more", c, most, l, size)
			}
			size = len(l)
		}
	}
}

// P6.7: with a place more a sample misses no more; with more clamps or dies there are no fewer places.
func TestMorePlacesAndCauses(t *testing.T) {
	r := rand.New(rand.NewSource(7))
	seen := map[string]int{}
	for range tries {
		c := anyCrate(r, api.MaxRows, api.MaxCols)
		sample := anySample(r, c, 12)
		row, col := anyPlace(r, c)
		more := append(slices.Clone(sample), api.Spot{Row: row, Col: col})
		before, after := missedBy(t, c, sample), missedBy(t, c, more)
		if after > before {
			t.Errorf("Missed(%v, %v) = %d, but %d with a place less", c, more, after, before)
		}
		if after < before {
			seen["places"]++
		}
		most := mayMiss(t, r, c, 10)
		few := fewestOf(t, c, most)
		for name, other := range map[string]api.Crate{
			"clamps": {Rows: c.Rows, Cols: c.Cols, Clamps: min(c.Clamps+1, api.MaxCauses), Dies: c.Dies},
			"dies":   {Rows: c.Rows, Cols: c.Cols, Clamps: c.Clamps, Dies: min(c.Dies+1, api.MaxCauses)},
		} {
			l := fewestOf(t, other, most)
			if len(l) < len(few) {
				t.Errorf("Fewest(%v, %d) = %v, but %v with fewer %s", other, most, l, few, name)
			}
			if len(l) > len(few) {
				seen[name]++
			}
		}
	}
	if min(seen["places"], seen["clamps"], seen["dies"]) < tries/20 {
		t.Errorf("only some kinds of results are tested: %v", seen)
	}
}

// P6.8: with a look more nothing can be bad that could not before, what surely is bad stays so, and no span is wider.
func TestMoreLooks(t *testing.T) {
	r := rand.New(rand.NewSource(8))
	less, sure := 0, 0
	for range tries / 4 {
		c := anyCrate(r, api.MaxRows, api.MaxCols)
		u := anyTruth(r, c)
		l := trueLooks(r, c, u)
		a, b := told(t, c, l), told(t, c, append(slices.Clone(l), anyLook(r, c, u)))
		f, g := a.found, b.found
		if b.e != api.OK || g.CanRows&^f.CanRows != 0 || g.CanCols&^f.CanCols != 0 || f.SureRows&^g.SureRows != 0 || f.SureCols&^g.SureCols != 0 || b.bad.Lo < a.bad.Lo || b.bad.Hi > a.bad.Hi {
			t.Errorf("of %v with %v is told %v, and with one look more %v", c, l, a, b)
		}
		for i := range a.judged {
			if a.judged[i] != api.BadPerhaps && b.judged[i] != a.judged[i] {
				t.Errorf("of %v with %v is told %v, and with one look more %v", c, l, a, b)
			}
		}
		if b.bad != a.bad {
			less++
		}
		if g.SureRows != f.SureRows || g.SureCols != f.SureCols {
			sure++
		}
	}
	if less < tries/50 || sure < tries/200 {
		t.Errorf("only some kinds of results are tested: %d less, %d sure", less, sure)
	}
}

// P6.8: pencils that can be bad never are those at a place that was seen good.
func TestGoodPlacesAreNeverBad(t *testing.T) {
	r := rand.New(rand.NewSource(9))
	good := 0
	for range tries {
		c := anyCrate(r, api.MaxRows, api.MaxCols)
		l := trueLooks(r, c, anyTruth(r, c))
		for _, x := range l {
			if x.Seen != api.SeenGood {
				continue
			}
			good++
			if n, e := Judge(c, l, x.Row, x.Col); n != api.BadNever || e != api.OK {
				t.Errorf("Judge(%v, %v, %d, %d) = %d, error %d", c, l, x.Row, x.Col, n, e)
			}
			if f, _ := Causes(c, l); f.CanRows>>x.Row&1 == 1 || f.CanCols>>x.Col&1 == 1 {
				t.Errorf("Causes(%v, %v) = %v, but %v was seen", c, l, f, x)
			}
		}
	}
	if good < tries {
		t.Errorf("only %d good places are tested", good)
	}
}

// P6.8, P11: neither the order of looks makes a difference, nor one that is there twice, nor one that shows nothing.
func TestAnyOrderOfLooks(t *testing.T) {
	r := rand.New(rand.NewSource(10))
	for range tries / 4 {
		c := anyCrate(r, api.MaxRows, api.MaxCols)
		l := anyLooks(r, c)
		want := told(t, c, l)
		other := append(slices.Clone(l), isHidden(anyPlace(r, c)))
		if len(l) > 0 {
			other = append(other, l[r.Intn(len(l))])
		}
		r.Shuffle(len(other), func(i, k int) { other[i], other[k] = other[k], other[i] })
		if got := told(t, c, other); !got.isLike(want) {
			t.Errorf("of %v with %v is told %v, but with %v %v", c, other, got, l, want)
		}
	}
}

// P11: the order of places makes no difference, nor does one that is there twice.
func TestAnyOrderOfPlaces(t *testing.T) {
	r := rand.New(rand.NewSource(11))
	for range tries {
		c := anyCrate(r, api.MaxRows, api.MaxCols)
		l := anySample(r, c, 12)
		want := missedBy(t, c, l)
		other := append(slices.Clone(l), l[:min(1, len(l))]...)
		r.Shuffle(len(other), func(i, k int) { other[i], other[k] = other[k], other[i] })
		if n := missedBy(t, c, other); n != want {
			t.Errorf("Missed(%v, %v) = %d, but %d in another order", c, other, n, want)
		}
	}
}
