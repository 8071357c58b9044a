// Package node holds what roots and the proofs of them must take alike: which numbers stand in a tree, and where a row of leaves is split.
package node

import (
	"math/bits"

	"ossuary/api"
)

// Outside asks whether number is none that a seal could be: a pair would take it for another, modulo Prime.
func Outside(number int) bool {
	return number < 0 || number >= api.Prime
}

// First tells how many of count leaves, of 2 or more, stand on the first side: the greatest power of 2 below count.
func First(count int) int {
	return 1 << bits.Len(uint(count-1)>>1)
}
