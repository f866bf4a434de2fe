package order

import (
	"pencilworks/api"
	"pencilworks/bound"
)

func validSale(s api.Sale) bool {
	return validSupplies(s.Supplies) && validOrders(s.Orders)
}

func validSupplies(l []api.Supply) bool {
	if len(l) > api.MaxSupplies {
		return false
	}
	for _, s := range l {
		if !bound.IsFrom(s.Shades, 0, 1<<api.MaxTones-1) ||
			!bound.Within(s.Many, 0, api.MaxMany) ||
			!bound.Within(s.Ready, 0, api.MaxHour) {
			return false
		}
	}
	return true
}

func validOrders(l []api.Order) bool {
	if len(l) > api.MaxOrders {
		return false
	}
	for _, o := range l {
		if !bound.IsFrom(o.Shade, 0, api.MaxTones-1) ||
			!bound.IsFrom(o.Many, 0, api.MaxMany) ||
			!bound.IsFrom(o.Due, 0, api.MaxHour) ||
			!bound.IsFrom(o.Price, 0, api.MaxBid) {
			return false
		}
	}
	return true
}
