// Package gf is the field of 256: see DOC.md, chapter 1.
package gf

import (
	"ossuary/api"
)

const (
	// size is how many numbers the field has.
	size = 256
	// numberBits is how many bits a number of the field has.
	numberBits = 8
	// modulus is x^8 + x^4 + x^3 + x^2 + 1.
	modulus = 285
	// maxExponent is the greatest exponent that Pow takes.
	maxExponent = 1000
	// exponentBits is how many bits maxExponent has.
	exponentBits = 10
	// inverting is the exponent of inverses: all numbers but 0, to the 255, are 1.
	inverting = size - 2
)

// Add tells the bits in which a and b differ.
func Add(a int, b int) (int, api.Errno) {
	if !inField(a) || !inField(b) {
		return 0, api.ErrGfForm
	}
	return a ^ b, api.OK
}

// Mul tells the product of a and b.
func Mul(a int, b int) (int, api.Errno) {
	if !inField(a) || !inField(b) {
		return 0, api.ErrGfForm
	}
	return product(a, b), api.OK
}

// Inv tells the number whose product with a is 1.
func Inv(a int) (int, api.Errno) {
	if !inField(a) {
		return 0, api.ErrGfForm
	}
	if a == 0 {
		return 0, api.ErrGfZero
	}
	return power(a, inverting), api.OK
}

// Pow tells a, multiplied e times.
func Pow(a int, e int) (int, api.Errno) {
	if !inField(a) || e < 0 || e > maxExponent {
		return 0, api.ErrGfForm
	}
	return power(a, e), api.OK
}

func inField(a int) bool {
	return 0 <= a && a < size
}

// product adds up a times x^bit, for the bits of b.
func product(a, b int) int {
	sum := 0
	for bit := range numberBits {
		if b>>bit&1 == 1 {
			sum ^= a
		}
		a = timesX(a)
	}
	return sum
}

// timesX takes the modulus away where a's highest bit leaves the field.
func timesX(a int) int {
	a <<= 1
	if a >= size {
		a ^= modulus
	}
	return a
}

// power squares a from bit to bit of e, so that it takes as many steps as e has bits.
func power(a, e int) int {
	result := 1
	for bit := range exponentBits {
		if e>>bit&1 == 1 {
			result = product(result, a)
		}
		a = product(a, a)
	}
	return result
}
