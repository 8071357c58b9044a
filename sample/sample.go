// Package sample makes the numbers and texts that the tests of several layers ask about: the same ones in each run, so that a test that fails once fails again.
package sample

// Numbers makes a function that tells number behind number, from 0 to 2^32 - 1, unlike from seed to seed.
func Numbers(seed int) func() int {
	x := uint64(seed)*2654435761 + 1
	return func() int {
		x = x*6364136223846793005 + 1442695040888963407
		return int(x >> 32)
	}
}

// Text makes one of length bytes, unlike from seed to seed.
func Text(seed, length int) string {
	next := Numbers(seed)
	b := make([]byte, length)
	for i := range b {
		b[i] = byte(next())
	}
	return string(b)
}
