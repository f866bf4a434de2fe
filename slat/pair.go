package slat

import "pencilworks/api"

// pair is the indices of a lower slat and an upper one.
type pair struct{ lower, upper int }

// glued returns how many leads are surely within a limit in each pair that always closes.
func glued(j api.Jig, lower, upper []api.Slat, limit int) map[pair]int {
	centred := map[pair]int{}
	for i := range lower {
		for k := range upper {
			x := sandwich{j, lower[i], upper[k]}
			if !x.closes(reach.isWithin) {
				continue
			}
			many := 0
			for _, l := range x.leads() {
				if l.isWithin(limit) {
					many++
				}
			}
			centred[pair{i, k}] = many
		}
	}
	return centred
}

// turn is the turn of a lower slat to be glued, and the set of the upper ones that are taken, by bits.
type turn struct{ lower, taken int }

// next returns the next turn, when an upper slat is taken.
func (t turn) next(upper int) turn {
	if upper != api.NoSlat {
		t.taken |= 1 << upper
	}
	t.lower++
	return t
}

// pairing is the upper slats of a lower one and of all later ones, and how many of their leads are centred.
type pairing struct {
	with  []int
	leads int
}

// before returns a pairing with one more lower slat before it.
func (p pairing) before(upper, leads int) pairing {
	with := make([]int, 1+len(p.with))
	with[0] = upper
	copy(with[1:], p.with)
	return pairing{with, leads + p.leads}
}

// bestPairing returns the first of the pairings that centre most, of so many lower and upper slats; of each pair that can be glued it is given how many leads are centred.
func bestPairing(lower, upper int, centred map[pair]int) pairing {
	known := map[turn]pairing{}
	var best func(t turn) pairing
	best = func(t turn) pairing {
		if t.lower == lower {
			return pairing{}
		}
		if p, ok := known[t]; ok {
			return p
		}
		p := best(t.next(api.NoSlat)).before(api.NoSlat, 0)
		// The slats are tried from the last one on, so that the first of those that do equally well remains.
		for k := upper - 1; k >= 0; k-- {
			leads, ok := centred[pair{t.lower, k}]
			if !ok || t.taken>>k&1 == 1 {
				continue
			}
			if q := best(t.next(k)).before(k, leads); q.leads >= p.leads {
				p = q
			}
		}
		known[t] = p
		return p
	}
	return best(turn{})
}
