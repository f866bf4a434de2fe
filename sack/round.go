package sack

// whole is what can be rounded.
type whole interface{ ~int | ~int64 }

// down returns a / b, rounded toward the lesser number; b is greater than 0.
func down[N whole](a, b N) N {
	q := a / b
	if a%b < 0 {
		q--
	}
	return q
}

// up returns a / b, rounded toward the greater number; b is greater than 0.
func up[N whole](a, b N) N {
	return -down(-a, b)
}
