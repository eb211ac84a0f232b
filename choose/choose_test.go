package choose

import (
	"math"
	"testing"
)

func TestPlace(t *testing.T) {
	for _, k := range [][3]int{{3, 0, 0}, {3, 4, 1}, {3, -4, 1}, {3, -1, 1}, {1, 9, 0}, {3, math.MaxInt, 1}, {3, math.MinInt, 2}, {3, math.MinInt + 1, 1}, {math.MaxInt, math.MinInt, 1}, {0, 5, 0}, {-1, 5, 0}} {
		if place := Place(k[0], k[1]); place != k[2] {
			t.Error(k, place)
		}
	}
}
