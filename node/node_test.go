package node

import (
	"math"
	"testing"

	"ossuary/api"
)

// P10.2, P11.2, P12.1: from 0 below Prime.
func TestOutside(t *testing.T) {
	for _, number := range []int{0, 1, 2, 911, 65537, 1 << 30, api.Prime - 2, api.Prime - 1} {
		if Outside(number) {
			t.Errorf("%d is outside; want inside", number)
		}
	}
	for _, number := range []int{-1, -2, -api.Prime, math.MinInt, api.Prime, api.Prime + 1, 2 * api.Prime, 1 << 32, math.MaxInt} {
		if !Outside(number) {
			t.Errorf("%d is inside; want outside", number)
		}
	}
}

// P10.2: the greatest power of 2 below the number of leaves.
func TestFirst(t *testing.T) {
	power := 1
	for count := 2; count <= 1<<16+1; count++ {
		if 2*power < count {
			power *= 2
		}
		if got := First(count); got != power {
			t.Fatalf("of %d leaves: %d; want %d", count, got, power)
		}
	}
	if got := First(math.MaxInt); got != 1<<62 {
		t.Errorf("of most leaves: %d; want %d", got, 1<<62)
	}
}

// R1: of fewer than 2 leaves there is no first side, but the call ends.
func TestFirstEnds(t *testing.T) {
	for _, count := range []int{1, 0, -1, -64, math.MinInt, math.MinInt + 1} {
		First(count)
	}
}
