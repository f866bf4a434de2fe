package fire

import (
	"slices"

	"pencilworks/api"
)

// queue gives things back in the order in which they came.
type queue[T any] struct{ waiting []T }

func (q *queue[T]) put(x T) { q.waiting = append(q.waiting, x) }

// take returns the first thing that waits, if there is one.
func (q *queue[T]) take() (x T, ok bool) {
	if len(q.waiting) == 0 {
		return x, false
	}
	x = q.waiting[0]
	q.waiting = q.waiting[1:]
	return x, true
}

// draft is a program that need not be complete, and its last hour.
type draft struct {
	program []int
	last    hour
}

// longer returns a program with more hours.
func longer(program []int, more ...int) []int {
	return slices.Concat(program, more)
}

// planner is what a program is planned for.
type planner struct {
	kiln    api.Kiln
	fire    api.Fire
	bakings []baking
	rules   []rule // of all places
}

func plannerOf(k api.Kiln, f api.Fire, places []int) planner {
	p := planner{kiln: k, fire: f}
	for _, place := range places {
		b := baking{siteOf(k, place), f}
		p.bakings = append(p.bakings, b)
		p.rules = append(p.rules, b.rules()...)
	}
	return p
}

// shortest returns the first of the shortest programs that keep all rules, or none.
func (p planner) shortest() []int {
	// Drafts are taken by their length, and those of a length in lexicographic order, so that the first one that reaches a state is the only one that is needed.
	reached := map[state]bool{}
	var open queue[draft]
	open.put(draft{last: outset()})
	for d, ok := open.take(); ok && len(d.program) < api.MaxProgram; d, ok = open.take() {
		for set := 0; set <= api.MaxHeat; set += p.kiln.Step {
			now := p.next(d.last, set)
			if reached[now.state] || !p.canFollow(d.last, now) {
				continue
			}
			reached[now.state] = true
			program := longer(d.program, set)
			if p.canEnd(d.last, now) {
				return program
			}
			open.put(draft{program, now})
		}
	}
	return nil
}

// next returns the hour after another one. It counts as hot if it is so at all places: what is hot enough at the place that needs most is so at the others, so that hours in which one place is held are hours for all.
func (p planner) next(before hour, set int) hour {
	isCold := func(b baking) bool { return !b.isHot(set) }
	return before.next(set, !slices.ContainsFunc(p.bakings, isCold), p.fire.Hold)
}

// canFollow tells whether an hour can come after another one.
func (p planner) canFollow(before, now hour) bool {
	if now.number > 0 && max(now.set-before.set, before.set-now.set) > p.kiln.Ramp {
		return false
	}
	isBroken := func(r rule) bool { return !r.isKept(before, now) }
	return !slices.ContainsFunc(p.rules, isBroken)
}

// canEnd tells whether an hour can be the last one.
func (p planner) canEnd(before, now hour) bool {
	now.isLast = true
	return p.canFollow(before, now)
}
