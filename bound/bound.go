// Package bound serves all layers: numbers and spans that are checked, and fractions that are rounded.
package bound

import "pencilworks/api"

// Within tells whether a span is valid, and contains only numbers between two bounds.
func Within(s api.Span, least, most int) bool {
	return least <= s.Lo && s.Lo <= s.Hi && s.Hi <= most
}

// IsFrom tells whether a number is from one to another one.
func IsFrom(n, least, most int) bool {
	return least <= n && n <= most
}

// whole is what can be rounded.
type whole interface{ ~int | ~int64 }

// Down returns a / b, rounded toward the lesser number; b is greater than 0.
func Down[N whole](a, b N) N {
	q := a / b
	if a%b < 0 {
		q--
	}
	return q
}

// Up returns a / b, rounded toward the greater number; b is greater than 0.
func Up[N whole](a, b N) N {
	return -Down(-a, b)
}
