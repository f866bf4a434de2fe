package die

import (
	"cmp"
	"iter"

	"pencilworks/api"
	"pencilworks/bound"
)

// whole is all of a width, in thousandths.
const whole = 1000

// fraction is a fraction of a millimetre.
type fraction interface {
	~int
	// inOne returns how many of it are a millimetre.
	inOne() int
}

// micro is so many thousandths of a millimetre, as widths are given.
type micro int

func (micro) inOne() int { return whole }

// nano is so many millionths of a millimetre: as all thousandths of widths are such, those that have shrunk are exact.
type nano int

func (nano) inOne() int { return whole * whole }

// compare returns whether a fraction is less than another one (-1), as great (0), or greater (1).
func compare[A, B fraction](a A, b B) int {
	return cmp.Compare(int(a)*b.inOne(), int(b)*a.inOne())
}

// end is an end of how wide leads can be.
type end struct {
	// wide returns how wide they are there, after so many hundreds of metres.
	wide func(used int) nano
	// round rounds a quotient away from the other end.
	round func(a, b int) int
}

// rounded returns how wide leads are after so many hundreds of metres, in whole thousandths of a millimetre.
func (e end) rounded(used int) int { return e.round(int(e.wide(used)), whole) }

// The ends of how wide leads can be.
const (
	thinnest = iota
	widest
	bothEnds
)

// mounted is a die on the press.
type mounted struct {
	api.Die
	ends [bothEnds]end
}

func mount(p api.Press, die int) mounted {
	m := mounted{Die: p.Dies[die]}
	m.ends[thinnest] = end{m.after(m.Wear.Lo, p.Shrink.Hi), bound.Down[int]}
	m.ends[widest] = end{m.after(m.Wear.Hi, p.Shrink.Lo), bound.Up[int]}
	return m
}

// after returns how wide leads are with a wear and a shrinkage, after any number of hundreds of metres.
func (m mounted) after(wear, shrink int) func(used int) nano {
	return func(used int) nano { return nano((m.Wide + wear*used) * (whole - shrink)) }
}

// isThickEnough and isThinEnough tell whether a lead surely is as wide as it must be at least, and at most.

func (m mounted) isThickEnough(want api.Span, used int) bool {
	return compare(m.ends[thinnest].wide(used), micro(want.Lo)) >= 0
}

func (m mounted) isThinEnough(want api.Span, used int) bool {
	return compare(m.ends[widest].wide(used), micro(want.Hi)) <= 0
}

// doesFor tells whether a die does for a draw, after so many hundreds of metres. As leads do not become thinner, the first one is the thinnest, and the last one the widest.
func (m mounted) doesFor(d api.Draw, used int) bool {
	return m.isThickEnough(d.Wide, used) && m.isThinEnough(d.Wide, used+d.Length)
}

// dies yields the number of each die, and the die on the press.
func dies(p api.Press) iter.Seq2[int, mounted] {
	return func(yield func(int, mounted) bool) {
		for n := range p.Dies {
			if !yield(n, mount(p, n)) {
				return
			}
		}
	}
}
