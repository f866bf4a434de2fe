package sack

import (
	"iter"
	"math"

	"pencilworks/api"
	"pencilworks/bound"
)

// unit is a gram, in the parts in which a state counts. The heaviest batch has less than 2^50 of them, and less than 2^60 thousandths of them, so that nothing overflows.
const unit = 1_000_000_000

// state is what may be true of a sack, and of the weight that is taken out of it: the letters are those of the chapter.
type state struct{ m, w, c, s int64 }

// dry returns what is dry, in thousandths of a gram.
func (t state) dry() int64 { return t.m * (1000 - t.w) }

// The five parts, in units.

func (t state) water() int64  { return t.m * t.w * 1_000_000 }
func (t state) carbon() int64 { return t.dry() * t.c * 1000 }
func (t state) smoke() int64  { return t.dry() * (1000 - t.c) * t.s }
func (t state) clay() int64   { return t.dry() * (1000 - t.c) * (1000 - t.s) }
func (t state) lead() int64   { return t.carbon() + t.clay() }

// measure is something that a state has. It has to change along a straight line with each of the four numbers of a state while the others stay.
type measure func(state) int64

// parts returns the measures of the five parts, in the order of api.Parts.
func parts() [5]measure {
	return [5]measure{state.water, state.carbon, state.smoke, state.clay, state.lead}
}

// carbonOver measures by how much the carbon is more than some thousandths of the lead. A share is a quotient, which cannot be added up sack by sack; this can.
func carbonOver(thou int) measure {
	return func(t state) int64 { return 1000*t.carbon() - int64(thou)*t.lead() }
}

// waterLack measures how many thousandths of a gram of water lack to some thousandths of the weight.
func waterLack(thou int) measure {
	return func(t state) int64 { return t.m * (int64(thou) - t.w) }
}

// reach is the least and the greatest value of something.
type reach struct{ least, most int64 }

// grams returns the span of what was counted in units.
func (r reach) grams() api.Span {
	return api.Span{Lo: int(bound.Down(r.least, unit)), Hi: int(bound.Up(r.most, unit))}
}

// held is what is known of all that is taken out of a sack.
type held struct {
	sack   api.Sack
	weight api.Span
}

// gather returns what is known of the takes out of each sack. What is true of a sack holds for all its takes, so that they count as one.
func gather(l []api.Sack, b []api.Take) map[int]held {
	all := map[int]held{}
	for _, t := range b {
		h := all[t.Sack]
		h.sack = l[t.Sack]
		h.weight.Lo += t.Weight.Lo
		h.weight.Hi += t.Weight.Hi
		all[t.Sack] = h
	}
	return all
}

// gramOf returns what is known of a gram out of a sack.
func gramOf(s api.Sack) held {
	return held{sack: s, weight: api.Span{Lo: 1, Hi: 1}}
}

// corners gives the states in which each number is at an end of its span.
func (h held) corners() iter.Seq[state] {
	return func(yield func(state) bool) {
		for _, m := range ends(h.weight) {
			for _, w := range ends(h.sack.Water) {
				for _, c := range ends(h.sack.Carbon) {
					for _, s := range ends(h.sack.Loss) {
						if !yield(state{m, w, c, s}) {
							return
						}
					}
				}
			}
		}
	}
}

func ends(s api.Span) [2]int64 {
	return [2]int64{int64(s.Lo), int64(s.Hi)}
}

// adds returns what a sack adds to the reach of a measure. A measure is straight along each number, so that it has its ends at corners.
func (h held) adds(of measure) reach {
	r := reach{least: math.MaxInt64, most: math.MinInt64}
	for t := range h.corners() {
		v := of(t)
		r.least = min(r.least, v)
		r.most = max(r.most, v)
	}
	return r
}

// adder tells what a sack adds to the reach of a measure.
type adder func(measure) reach

// whatAdds returns the adder of each sack of a batch. Their order does not matter, because they are only summed up.
func whatAdds(all map[int]held) []adder {
	var l []adder
	for _, h := range all {
		l = append(l, h.adds)
	}
	return l
}

// together returns the reach of a measure of a whole batch. No sack's truth depends on that of another one, so that their ends add up.
func together(adders []adder, of measure) reach {
	var sum reach
	for _, adds := range adders {
		r := adds(of)
		sum.least += r.least
		sum.most += r.most
	}
	return sum
}

// notBelow returns between which bounds n, from 0 to total, has to be so that n times one and total - n times other are together not below 0.
func notBelow(total, one, other int64) reach {
	each, lack := one-other, -total*other
	switch {
	case each > 0:
		return reach{least: bound.Up(lack, each), most: total}
	case each < 0:
		return reach{least: 0, most: bound.Down(-lack, -each)}
	case lack > 0:
		return reach{least: total, most: 0}
	}
	return reach{least: 0, most: total}
}
