package fire

import (
	"iter"

	"pencilworks/api"
)

// state is all that later hours depend on: what is set in an hour, and for how many hours, up to this one, leads have surely been hot enough. Once they have been so for as long as they must be, they stay so.
type state struct{ set, held int }

// hour is an hour of a program.
type hour struct {
	state
	number int
	isLast bool
}

// outset is before the first hour.
func outset() hour {
	return hour{number: -1}
}

// next returns the hour after another one; hold is for how many hours leads must be hot enough.
func (h hour) next(set int, isHot bool, hold int) hour {
	held := h.held
	switch {
	case held == hold:
	case isHot:
		held++
	default:
		held = 0
	}
	return hour{state: state{set, held}, number: h.number + 1}
}

// baking is a fire at a place.
type baking struct {
	site
	fire api.Fire
}

// isHot tells whether leads surely are as hot as they must be held.
func (b baking) isHot(set int) bool {
	return b.atLeast(set) >= whole*b.fire.Soak
}

// hours gives each hour of a program, with the one before it.
func (b baking) hours(program []int) iter.Seq2[hour, hour] {
	return func(yield func(before, now hour) bool) {
		before := outset()
		for i, set := range program {
			now := before.next(set, b.isHot(set), b.fire.Hold)
			now.isLast = i == len(program)-1
			if !yield(before, now) {
				return
			}
			before = now
		}
	}
}

// rule is a rule for leads at a place.
type rule struct {
	number int
	// isKept tells whether the rule is surely kept in an hour, with the one before it.
	isKept func(before, now hour) bool
}

// rules returns all rules, by their numbers.
func (b baking) rules() []rule {
	f := b.fire
	isCool := func(set int) bool { return b.atMost(set) <= whole*f.Cool }
	return []rule{
		{api.RuleBegin, func(_, now hour) bool { return now.number > 0 || isCool(now.set) }},
		{api.RuleTop, func(_, now hour) bool { return b.atMost(now.set) <= whole*f.Top }},
		{api.RuleRise, func(before, now hour) bool { return now.number == 0 || b.rise(before.set, now.set) <= whole*f.Rise }},
		{api.RuleFall, func(before, now hour) bool { return now.number == 0 || b.rise(now.set, before.set) <= whole*f.Fall }},
		// There is a truth that is least hot in all hours at once, so that leads are surely held just if they are in this one.
		{api.RuleHold, func(_, now hour) bool { return !now.isLast || now.held == f.Hold }},
		{api.RuleEnd, func(_, now hour) bool { return !now.isLast || isCool(now.set) }},
	}
}

// breach is a rule that is not surely kept, and the hour that is named with it. It is zero if all rules are kept.
type breach struct{ rule, hour int }

// breaches returns the first breach at each place of a kiln.
func breaches(k api.Kiln, f api.Fire, program []int) []breach {
	first := make([]breach, len(k.Places))
places:
	for place := range first {
		b := baking{siteOf(k, place), f}
		for _, r := range b.rules() {
			for before, now := range b.hours(program) {
				if r.isKept(before, now) {
					continue
				}
				first[place] = breach{r.number, now.number}
				if r.number == api.RuleHold { // only the end shows it, but it is not the last hour that breaks it
					first[place].hour = 0
				}
				continue places
			}
		}
	}
	return first
}
