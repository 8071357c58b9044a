package sample

import (
	"testing"
)

// The tests of the layers lean on numbers and texts that are the same in each run and unlike from seed to seed.
func TestSamples(t *testing.T) {
	seen := map[string]int{}
	for seed := range 1000 {
		one, other := Numbers(seed), Numbers(seed)
		for range 100 {
			if a, b := one(), other(); a != b || a < 0 || a >= 1<<32 {
				t.Fatalf("seed %d: %d and %d", seed, a, b)
			}
		}
		s := Text(seed, 64)
		if s != Text(seed, 64) || len(s) != 64 || s[:8] != Text(seed, 8) {
			t.Fatalf("seed %d: %q", seed, s)
		}
		if before, again := seen[s]; again {
			t.Fatalf("seeds %d and %d are alike", before, seed)
		}
		seen[s] = seed
	}
}
