// Package sack is layer 1: what leads are made of, from the sack on. See shared/doc/01-sack.md.
package sack

import (
	"sort"

	"pencilworks/api"
	"pencilworks/bound"
)

// Weigh returns the spans of the water, the carbon, the smoke, the clay and the lead of a batch.
func Weigh(l []api.Sack, b []api.Take) (api.Parts, api.Errno) {
	if !valid(l, b) {
		return api.Parts{}, api.ErrArg
	}
	adders := whatAdds(gather(l, b))
	var spans [5]api.Span
	for i, of := range parts() {
		spans[i] = together(adders, of).grams()
	}
	return api.Parts{Water: spans[0], Carbon: spans[1], Smoke: spans[2], Clay: spans[3], Lead: spans[4]}, api.OK
}

// Share returns the span of the thousandths of carbon in the lead of a batch.
func Share(l []api.Sack, b []api.Take) (api.Span, api.Errno) {
	if !valid(l, b) {
		return api.Span{}, api.ErrArg
	}
	adders := whatAdds(gather(l, b))
	// Where a truth can fall below the next number, the least share is not yet there, so that this one is it, rounded down.
	lo := sort.Search(api.MaxThou, func(thou int) bool { return together(adders, carbonOver(thou+1)).least < 0 })
	hi := sort.Search(api.MaxThou, func(thou int) bool { return together(adders, carbonOver(thou)).most <= 0 })
	return api.Span{Lo: lo, Hi: hi}, api.OK
}

// Water returns the span of the grams of water that make a batch as wet as is wanted, in thousandths, in each truth.
func Water(l []api.Sack, b []api.Take, want api.Span) (api.Span, api.Errno) {
	if !valid(l, b) {
		return api.Span{}, api.ErrArg
	}
	if !bound.Within(want, 0, api.MaxThou-1) {
		return api.Span{}, api.ErrRange
	}
	adders := whatAdds(gather(l, b))
	// A gram of water that is added counts for the water and for the whole: it makes up for 1000 less what is wanted.
	atLeast := bound.Up(together(adders, waterLack(want.Lo)).most, int64(api.MaxThou-want.Lo))
	atMost := bound.Down(together(adders, waterLack(want.Hi)).least, int64(api.MaxThou-want.Hi))
	return numbers(max(atLeast, 0), min(atMost, api.MaxGrams))
}

// Mix returns the span of the grams out of the first of two sacks with which a total has a share that is wanted, in each truth.
func Mix(l []api.Sack, first, second, total int, want api.Span) (api.Span, api.Errno) {
	if !validSacks(l) {
		return api.Span{}, api.ErrArg
	}
	if !isIndex(l, first) || !isIndex(l, second) || first == second {
		return api.Span{}, api.ErrRange
	}
	if total < 2 || total > api.MaxTake || !bound.Within(want, 0, api.MaxThou) {
		return api.Span{}, api.ErrRange
	}
	one, other := gramOf(l[first]).adds, gramOf(l[second]).adds
	low, high := carbonOver(want.Lo), carbonOver(want.Hi)
	rich := notBelow(int64(total), one(low).least, other(low).least)
	poor := notBelow(int64(total), -one(high).most, -other(high).most)
	return numbers(max(rich.least, poor.least, 1), min(rich.most, poor.most, int64(total)-1))
}

// numbers returns the span of the numbers between two bounds, or ErrNone where there are none.
func numbers(least, most int64) (api.Span, api.Errno) {
	if least > most {
		return api.Span{}, api.ErrNone
	}
	return api.Span{Lo: int(least), Hi: int(most)}, api.OK
}
