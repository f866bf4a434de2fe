package bound

import (
	"math"
	"testing"

	"pencilworks/api"
)

// A span includes both of its ends, and so do the bounds that it must be within.
func TestWithin(t *testing.T) {
	for _, c := range []struct {
		s           api.Span
		least, most int
		want        bool
	}{
		{api.Span{Lo: 1, Hi: 5}, 1, 5, true},
		{api.Span{Lo: 3, Hi: 3}, 3, 3, true},
		{api.Span{Lo: -4, Hi: -2}, -5, 0, true},
		{api.Span{Lo: 0, Hi: 5}, 1, 5, false},
		{api.Span{Lo: 1, Hi: 6}, 1, 5, false},
		{api.Span{Lo: 3, Hi: 2}, 1, 5, false},
		{api.Span{Lo: math.MinInt, Hi: math.MaxInt}, 1, 5, false},
		{api.Span{Lo: math.MaxInt, Hi: math.MinInt}, 1, 5, false},
		{api.Span{Lo: math.MinInt, Hi: math.MaxInt}, math.MinInt, math.MaxInt, true},
	} {
		if got := Within(c.s, c.least, c.most); got != c.want {
			t.Errorf("%v within %d to %d: %t", c.s, c.least, c.most, got)
		}
	}
}

// R5: a number may be at either end.
func TestIsFrom(t *testing.T) {
	for n, want := range map[int]bool{math.MinInt: false, -3: false, -2: true, 0: true, 5: true, 6: false, math.MaxInt: false} {
		if got := IsFrom(n, -2, 5); got != want {
			t.Errorf("%d is from -2 to 5: %t", n, got)
		}
	}
	if IsFrom(0, 0, -1) || !IsFrom(7, 7, 7) {
		t.Error("what has no numbers has one, or what has one has none")
	}
}

// R5: what is below 0 is rounded toward the lesser number, or toward the greater one.
func TestRounding(t *testing.T) {
	for _, c := range [][4]int{{7, 2, 3, 4}, {-7, 2, -4, -3}, {6, 2, 3, 3}, {-6, 2, -3, -3}, {0, 5, 0, 0}, {1, 5, 0, 1}, {-1, 5, -1, 0}} {
		if Down(c[0], c[1]) != c[2] || Up(c[0], c[1]) != c[3] {
			t.Errorf("%d / %d is rounded to %d and %d", c[0], c[1], Down(c[0], c[1]), Up(c[0], c[1]))
		}
	}
}
