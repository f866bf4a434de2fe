package order

import (
	"slices"

	"pencilworks/api"
)

// The nodes of a network: the supplies and the orders by their numbers, the works, from which all pencils come, and the buyers, to whom all go.
const (
	firstSupply = 0
	firstOrder  = firstSupply + api.MaxSupplies
	works       = firstOrder + api.MaxOrders
	buyers      = works + 1
	nodes       = buyers + 1
)

// network is how many pencils more can be given by each node to each other one; what was given can be given back.
type network [nodes][nodes]int

// network returns the network of a market in which nothing has been given.
func (m market) network() *network {
	n := &network{}
	for i, b := range m.batches {
		n[works][firstSupply+i] = b.many
		for j, o := range m.orders {
			if b.canServe(o) {
				n[firstSupply+i][firstOrder+j] = min(b.many, o.Many)
			}
		}
	}
	for j, o := range m.orders {
		n[firstOrder+j][buyers] = o.Many
	}
	return n
}

// give gives pencils along a path, as many as can be, and returns how many these are.
func (n *network) give(path []int) int {
	most := api.MaxMany
	for i, to := range path[1:] {
		most = min(most, n[path[i]][to])
	}
	for i, to := range path[1:] {
		n[path[i]][to] -= most
		n[to][path[i]] += most
	}
	return most
}

// route is two nodes of a network between which pencils are to be given.
type route struct {
	in       *network
	from, to int
}

// shortest returns a shortest path along which pencils can be given, or nil if there is none. With shortest paths few are needed, however many pencils there are (Edmonds and Karp).
func (r route) shortest() []int {
	var seen [nodes]bool
	seen[r.from] = true
	for paths := [][]int{{r.from}}; len(paths) > 0; paths = paths[1:] {
		path := paths[0]
		last := path[len(path)-1]
		if last == r.to {
			return path
		}
		for next, most := range r.in[last] {
			if most > 0 && !seen[next] {
				seen[next] = true
				paths = append(paths, append(slices.Clone(path), next))
			}
		}
	}
	return nil
}

// giveAll gives as many pencils as can be given along paths that are looked for one after another, and returns how many these are.
func (n *network) giveAll(look func() []int) (given int) {
	for path := look(); path != nil; path = look() {
		given += n.give(path)
	}
	return given
}

// settle makes a supply give an order as many pencils as it can while all orders together still get as many, and returns how many these are. Then neither can reach the other any more, so that this stays so.
func (n *network) settle(supply, order int) int {
	given := n[order][supply]
	if n[supply][order]+given == 0 {
		return 0
	}
	n[supply][order], n[order][supply] = 0, 0
	// The order gives back, by way of others, what the supply can give it instead.
	return given + n.giveAll(route{n, order, supply}.shortest)
}

// shares returns how many pencils each supply gives each order, if as many as can be are given, and the first numbers are as great as they can be.
func (m market) shares() (rows [][]int) {
	n := m.network()
	n.giveAll(route{n, works, buyers}.shortest)
	for i := range m.batches {
		row := make([]int, len(m.orders))
		for j := range row {
			row[j] = n.settle(firstSupply+i, firstOrder+j)
		}
		rows = append(rows, row)
	}
	return rows
}
