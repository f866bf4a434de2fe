package fire

import "pencilworks/api"

// turn is the turn of a batch to be set at a place, and the set of the places that are taken, by bits.
type turn struct{ batch, taken int }

// next returns the next turn, when a place is taken.
func (t turn) next(place int) turn {
	if place != api.NoPlace {
		t.taken |= 1 << place
	}
	t.batch++
	return t
}

// choice is where a batch stands, and how many stand of it and the later ones.
type choice struct{ place, many int }

// arranged returns the first list of places with which as many batches stand as can; of each batch the breaches at all places are given.
func arranged(batches [][]breach) []int {
	known := map[turn]choice{}
	var best func(t turn) choice
	best = func(t turn) choice {
		if t.batch == len(batches) {
			return choice{}
		}
		if c, ok := known[t]; ok {
			return c
		}
		c := choice{api.NoPlace, best(t.next(api.NoPlace)).many}
		// The places are tried from the last one on, so that the first of those that do equally well remains.
		for place := len(batches[t.batch]) - 1; place >= 0; place-- {
			if t.taken>>place&1 == 1 || batches[t.batch][place] != (breach{}) {
				continue
			}
			if many := 1 + best(t.next(place)).many; many >= c.many {
				c = choice{place, many}
			}
		}
		known[t] = c
		return c
	}
	var places []int
	for t := (turn{}); t.batch < len(batches); {
		place := best(t).place
		places = append(places, place)
		t = t.next(place)
	}
	return places
}
