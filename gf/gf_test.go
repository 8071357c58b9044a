package gf

import (
	"math"
	"testing"

	"ossuary/api"
)

// outside are numbers that the field does not have; each one's low byte is in the field.
var outside = []int{-1, -2, -255, -256, 256, 257, 285, 511, 1 << 32, math.MinInt, math.MaxInt}

// logs tells the powers of 2, made by doubling alone, and of which power each number but 0 is.
func logs(t *testing.T) (powers [255]int, log [256]int) {
	x := 1
	for i := range 255 {
		if i > 0 && x == 1 {
			t.Fatalf("the powers of 2 come back behind %d", i)
		}
		powers[i] = x
		log[x] = i
		x *= 2
		if x > 255 {
			x ^= 285
		}
	}
	return powers, log
}

func wantNumber(t *testing.T, call string, got int, err api.Errno, want int) {
	t.Helper()
	if got != want || err != api.OK {
		t.Fatalf("%s: %d, error %d; want %d", call, got, err, want)
	}
}

func wantError(t *testing.T, call string, got int, err, want api.Errno) {
	t.Helper()
	if got != 0 || err != want {
		t.Errorf("%s: %d, error %d; want 0, error %d", call, got, err, want)
	}
}

// P1.1: known sums and products, with 0, 1 and 255 among them.
func TestKnownSumsAndProducts(t *testing.T) {
	rows := []struct{ a, b, sum, product int }{
		{0, 0, 0, 0},
		{0, 1, 1, 0},
		{0, 255, 255, 0},
		{1, 1, 0, 1},
		{1, 255, 254, 255},
		{255, 255, 0, 226},
		{3, 3, 0, 5},
		{2, 127, 125, 254},
		{2, 128, 130, 29},
		{128, 128, 0, 19},
		{16, 16, 0, 29},
		{83, 202, 153, 143},
	}
	for _, r := range rows {
		sum, err := Add(r.a, r.b)
		wantNumber(t, "P1.1: Add", sum, err, r.sum)
		got, err := Mul(r.a, r.b)
		wantNumber(t, "P1.1: Mul", got, err, r.product)
	}
}

// P1.1: Add and Mul of all pairs; products by logarithms, not by bits.
func TestAllSumsAndProducts(t *testing.T) {
	powers, log := logs(t)
	for a := range 256 {
		for b := range 256 {
			sum, err := Add(a, b)
			wantNumber(t, "P1.1: Add", sum, err, (a|b)-(a&b))
			want := 0
			if a != 0 && b != 0 {
				want = powers[(log[a]+log[b])%255]
			}
			got, err := Mul(a, b)
			wantNumber(t, "P1.1: Mul", got, err, want)
		}
	}
}

// P1.1, T1: what one adds and multiplies is a field.
func TestFieldLaws(t *testing.T) {
	var sums, products [256][256]int
	for a := range 256 {
		for b := range 256 {
			sums[a][b], _ = Add(a, b)
			products[a][b], _ = Mul(a, b)
		}
	}
	for a := range 256 {
		if sums[a][0] != a || products[a][1] != a || products[a][0] != 0 || sums[a][a] != 0 {
			t.Fatalf("P1.1: %d with 0, 1 or itself", a)
		}
		for b := range 256 {
			if sums[a][b] != sums[b][a] || products[a][b] != products[b][a] {
				t.Fatalf("P1.1: %d and %d, turned round", a, b)
			}
			for c := range 256 {
				if sums[sums[a][b]][c] != sums[a][sums[b][c]] ||
					products[products[a][b]][c] != products[a][products[b][c]] ||
					products[a][sums[b][c]] != sums[products[a][b]][products[a][c]] {
					t.Fatalf("P1.1: %d, %d and %d, in another grouping", a, b, c)
				}
			}
		}
	}
}

// P1.2: known inverses, 1 and 255 among them.
func TestKnownInverses(t *testing.T) {
	for _, r := range []struct{ a, want int }{{1, 1}, {2, 142}, {142, 2}, {3, 244}, {128, 27}, {255, 253}} {
		got, err := Inv(r.a)
		wantNumber(t, "P1.2: Inv", got, err, r.want)
	}
}

// P1.2: each number but 0 has an inverse, which logarithms tell too.
func TestAllInverses(t *testing.T) {
	powers, log := logs(t)
	for a := 1; a < 256; a++ {
		got, err := Inv(a)
		wantNumber(t, "P1.2: Inv", got, err, powers[(255-log[a])%255])
		one, err := Mul(a, got)
		wantNumber(t, "P1.2: a times its inverse", one, err, 1)
	}
}

// P1.2: 0 has no inverse.
func TestInverseOfZero(t *testing.T) {
	got, err := Inv(0)
	wantError(t, "P1.2: Inv(0)", got, err, api.ErrGfZero)
}

// P1.2: known powers, at the edges of numbers and exponents.
func TestKnownPowers(t *testing.T) {
	rows := []struct{ a, e, want int }{
		{0, 0, 1},
		{0, 1, 0},
		{0, 1000, 0},
		{1, 0, 1},
		{1, 1000, 1},
		{255, 0, 1},
		{255, 1, 255},
		{255, 2, 226},
		{2, 7, 128},
		{2, 8, 29},
		{2, 14, 19},
		{2, 255, 1},
		{2, 256, 2},
		{2, 1000, 235},
	}
	for _, r := range rows {
		got, err := Pow(r.a, r.e)
		wantNumber(t, "P1.2: Pow", got, err, r.want)
	}
}

// P1.2: all numbers with all exponents.
func TestAllPowers(t *testing.T) {
	powers, log := logs(t)
	for a := range 256 {
		for e := range 1001 {
			want := 0
			switch {
			case e == 0:
				want = 1
			case a != 0:
				want = powers[log[a]*e%255]
			}
			got, err := Pow(a, e)
			wantNumber(t, "P1.2: Pow", got, err, want)
		}
	}
}

// P1.1, R2: a number outside of the field, in either place.
func TestSumsAndProductsOutside(t *testing.T) {
	for _, x := range outside {
		for _, in := range []int{0, 1, 255, x} {
			got, err := Add(x, in)
			wantError(t, "P1.1: Add, first", got, err, api.ErrGfForm)
			got, err = Add(in, x)
			wantError(t, "P1.1: Add, second", got, err, api.ErrGfForm)
			got, err = Mul(x, in)
			wantError(t, "P1.1: Mul, first", got, err, api.ErrGfForm)
			got, err = Mul(in, x)
			wantError(t, "P1.1: Mul, second", got, err, api.ErrGfForm)
		}
	}
}

// P1.2, R6: a number outside of the field is told as such, also where its low byte is 0.
func TestInversesOutside(t *testing.T) {
	for _, x := range outside {
		got, err := Inv(x)
		wantError(t, "P1.2: Inv", got, err, api.ErrGfForm)
	}
}

// P1.2: a number or an exponent that Pow does not take.
func TestPowersOutside(t *testing.T) {
	for _, x := range outside {
		for _, e := range []int{0, 1, 1000, -1, 1001} {
			got, err := Pow(x, e)
			wantError(t, "P1.2: Pow, number", got, err, api.ErrGfForm)
		}
	}
	for _, e := range []int{-1, -1000, 1001, 1024, 1 << 32, math.MinInt, math.MaxInt} {
		for _, a := range []int{0, 1, 255} {
			got, err := Pow(a, e)
			wantError(t, "P1.2: Pow, exponent", got, err, api.ErrGfForm)
		}
	}
}
