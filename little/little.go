// Package little writes whole numbers in bytes, the lowest one first, and reads them.
package little

// Append puts number behind to, in width bytes; what they cannot hold is lost.
func Append(to []byte, number int, width int) []byte {
	for range width {
		to = append(to, byte(number))
		number >>= 8
	}
	return to
}

// Number reads the number of whose bytes s is all.
func Number(s string) int {
	number := 0
	for at := len(s) - 1; at >= 0; at-- {
		number = number<<8 | int(s[at])
	}
	return number
}
