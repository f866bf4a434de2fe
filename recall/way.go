package recall

import "pencilworks/api"

// way is a way from batch to batch along their cards.
type way interface {
	// next returns the batches that are one step away from a batch.
	next(batch int) batches
}

// back leads to what a batch was made of.
type back []api.Batch

func (l back) next(batch int) batches { return batches(l[batch].From) }

// ahead leads to what was made of a batch.
type ahead []api.Batch

func (l ahead) next(batch int) (made batches) {
	for i, b := range l {
		if batches(b.From).has(batch) {
			made = union(made, only(i))
		}
	}
	return made
}

// reach returns a batch, and all to which a way leads from it.
func reach(w way, batch int) (all batches) {
	var met [api.MaxBatches]bool
	var visit func(int)
	visit = func(b int) {
		met[b] = true
		for next := range w.next(b).each {
			// Each batch is gone on from once, however many ways lead to it.
			if !met[next] {
				visit(next)
			}
		}
	}
	visit(batch)
	for b, was := range met {
		if was {
			all = union(all, only(b))
		}
	}
	return all
}
