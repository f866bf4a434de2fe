package order

// claim is a set of orders, and how many pencils it lacks.
type claim struct {
	of      set
	missing int
}

// isBefore tells whether a set lacks more than another one, or as much with fewer orders.
func (c claim) isBefore(other claim) bool {
	if c.missing != other.missing {
		return c.missing > other.missing
	}
	return c.of.size() < other.of.size()
}

// claims returns what each set of orders lacks.
func (m market) claims() (all []claim) {
	for s := range sets(len(m.orders)) {
		all = append(all, claim{s, m.missing(s)})
	}
	return all
}

// neediest returns the first claim: that of no orders if no set lacks anything.
func (m market) neediest() (first claim) {
	for _, c := range m.claims() {
		if c.isBefore(first) {
			first = c
		}
	}
	return first
}

// meetsAll tells whether all orders can be met: they can if no set of them lacks anything (Hall's theorem).
func (m market) meetsAll() bool { return m.neediest() == (claim{}) }

// offer is a set of orders, and its price.
type offer struct {
	of    set
	price int
}

// dearest returns the first offer with the greatest price among those that can be met: those of which no part lacks anything.
func (m market) dearest() (first offer) {
	claims := m.claims()
offers:
	for s := range sets(len(m.orders)) {
		for _, c := range claims {
			if c.missing > 0 && s.includes(c.of) {
				continue offers
			}
		}
		if o := (offer{s, m.price(s)}); o.price > first.price {
			first = o
		}
	}
	return first
}
