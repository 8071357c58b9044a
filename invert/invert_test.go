package invert

import (
	"fmt"
	"math"
	"slices"
	"sync"
	"testing"

	"ossuary/api"
	"ossuary/matrix"
)

// of makes a matrix of these rows.
func of(rows ...[]int) api.Matrix { return api.Matrix{Rows: rows} }

// constant makes a matrix in which each number is x.
func constant(rows, columns, x int) api.Matrix {
	var m api.Matrix
	for range rows {
		m.Rows = append(m.Rows, slices.Repeat([]int{x}, columns))
	}
	return m
}

// identity has x where row and column are one.
func identity(size, x int) api.Matrix {
	m := constant(size, size, 0)
	for i := range size {
		m.Rows[i][i] = x
	}
	return m
}

// numbers tells numbers from 0 to 255, unlike from seed to seed.
func numbers(seed int) func() int {
	x := uint32(seed)*2654435761 + 1
	return func() int {
		x = x*1664525 + 1013904223
		return int(x >> 24)
	}
}

// mixed makes a matrix of numbers of all kinds, unlike from seed to seed.
func mixed(seed, rows, columns int) api.Matrix {
	next := numbers(seed)
	m := constant(rows, columns, 0)
	for _, row := range m.Rows {
		for column := range row {
			row[column] = next()
		}
	}
	return m
}

// sparse is mixed, with a 0 in three places of four.
func sparse(seed, size int) api.Matrix {
	m := mixed(seed, size, size)
	keep := mixed(seed+10000, size, size)
	for i, row := range m.Rows {
		for j := range row {
			if keep.Rows[i][j]%4 != 0 {
				row[j] = 0
			}
		}
	}
	return m
}

// with is a copy of m that has x in one place.
func with(m api.Matrix, row, column, x int) api.Matrix {
	m = clone(m)
	m.Rows[row][column] = x
	return m
}

func clone(m api.Matrix) api.Matrix {
	var out api.Matrix
	for _, row := range m.Rows {
		out.Rows = append(out.Rows, slices.Clone(row))
	}
	return out
}

// turned has m's columns as its rows.
func turned(m api.Matrix) api.Matrix {
	out := constant(len(m.Rows[0]), len(m.Rows), 0)
	for i, row := range m.Rows {
		for j, x := range row {
			out.Rows[j][i] = x
		}
	}
	return out
}

// without leaves out a row and a column.
func without(m api.Matrix, row, column int) api.Matrix {
	m = clone(m)
	m.Rows = slices.Delete(m.Rows, row, row+1)
	for i := range m.Rows {
		m.Rows[i] = slices.Delete(m.Rows[i], column, column+1)
	}
	return m
}

func equal(a, b api.Matrix) bool {
	return slices.EqualFunc(a.Rows, b.Rows, func(x, y []int) bool { return slices.Equal(x, y) })
}

// times multiplies by doubling alone, apart from the program's field.
func times(a, b int) int {
	x := 0
	for ; b > 0; b /= 2 {
		if b%2 == 1 {
			x ^= a
		}
		a *= 2
		if a > 255 {
			a ^= 285
		}
	}
	return x
}

// over looks for the number whose product with a is 1.
func over(a int) int {
	for b := range 256 {
		if times(a, b) == 1 {
			return b
		}
	}
	return 0
}

// product multiplies apart from the program's matrices.
func product(a, b api.Matrix) api.Matrix {
	sum := constant(len(a.Rows), len(b.Rows[0]), 0)
	for k, factors := range b.Rows {
		for row := range sum.Rows {
			for column, factor := range factors {
				sum.Rows[row][column] ^= times(a.Rows[row][k], factor)
			}
		}
	}
	return sum
}

// determinant goes along the first row; it is meant for small matrices.
func determinant(m api.Matrix) int {
	if len(m.Rows) == 0 {
		return 1
	}
	sum := 0
	for column, x := range m.Rows[0] {
		if x != 0 {
			sum ^= times(x, determinant(without(m, 0, column)))
		}
	}
	return sum
}

// expected works an inverse out by determinants, not by rows as the program does; false, if there is none.
func expected(m api.Matrix) (api.Matrix, bool) {
	whole := determinant(m)
	if whole == 0 {
		return api.Matrix{}, false
	}
	size := len(m.Rows)
	out := constant(size, size, 0)
	for row := range size {
		for column := range size {
			out.Rows[column][row] = times(over(whole), determinant(without(m, row, column)))
		}
	}
	return out, true
}

func wantMatrix(t *testing.T, about string, m, want api.Matrix) {
	t.Helper()
	got, err := Invert(m)
	if !equal(got, want) || err != api.OK {
		t.Fatalf("%s: Invert(%v): %v, error %d; want %v", about, m, got, err, want)
	}
}

func wantError(t *testing.T, about string, m api.Matrix, want api.Errno) {
	t.Helper()
	got, err := Invert(m)
	if got.Rows != nil || err != want {
		t.Errorf("%s: Invert(%.200s): %v, error %d; want none, error %d", about, fmt.Sprint(m), got, err, want)
	}
}

// wantExpected holds the answer against determinants, also where there is none.
func wantExpected(t *testing.T, about string, m api.Matrix) {
	t.Helper()
	if want, ok := expected(m); ok {
		wantMatrix(t, about, m, want)
	} else {
		wantError(t, about, m, api.ErrInvertSingular)
	}
}

// wantBack asks for an inverse, of which the products both ways are the identity and the inverse is m.
func wantBack(t *testing.T, about string, m api.Matrix) {
	t.Helper()
	got, err := Invert(m)
	if err != api.OK || len(got.Rows) != len(m.Rows) || !matrix.May(got) {
		t.Fatalf("%s: Invert(%v): %v, error %d", about, m, got, err)
	}
	one := identity(len(m.Rows), 1)
	if !equal(product(m, got), one) || !equal(product(got, m), one) {
		t.Fatalf("%s: Invert(%v): %v, whose products are %v and %v", about, m, got, product(m, got), product(got, m))
	}
	wantMatrix(t, about+", inverted again", got, m)
}

// P4.1: known inverses, written out, with 0, 1 and 255 among their numbers.
func TestKnownInverses(t *testing.T) {
	for _, r := range []struct {
		about   string
		m, want api.Matrix
	}{
		{"1", of([]int{1}), of([]int{1})},
		{"2", of([]int{2}), of([]int{142})},
		{"255", of([]int{255}), of([]int{253})},
		{"of rows turned round", of([]int{0, 1}, []int{1, 0}), of([]int{0, 1}, []int{1, 0})},
		{"of rows turned round, times numbers", of([]int{0, 2}, []int{255, 0}), of([]int{0, 253}, []int{142, 0})},
		{"its own", of([]int{1, 2}, []int{0, 1}), of([]int{1, 2}, []int{0, 1})},
		{"0 above", of([]int{3, 0}, []int{128, 1}), of([]int{244, 0}, []int{139, 1})},
		{"0 in its first place", of([]int{0, 255}, []int{1, 1}), of([]int{253, 1}, []int{253, 0})},
		{"0 nowhere", of([]int{1, 2}, []int{3, 4}), of([]int{2, 1}, []int{143, 142})},
		{"255 and 1", of([]int{255, 1}, []int{1, 255}), of([]int{142, 240}, []int{240, 142})},
		{"of three", of([]int{1, 1, 1}, []int{1, 2, 4}, []int{1, 3, 5}), of([]int{1, 1, 1}, []int{122, 245, 143}, []int{122, 244, 142})},
		{"of three in a ring", of([]int{0, 0, 2}, []int{1, 0, 0}, []int{0, 3, 0}), of([]int{0, 1, 0}, []int{0, 0, 244}, []int{142, 0, 0})},
		{"0 in a later place", of([]int{1, 1, 0}, []int{1, 1, 1}, []int{0, 1, 1}), of([]int{0, 1, 1}, []int{1, 1, 1}, []int{1, 1, 0})},
		{"the last row first", of([]int{0, 1, 2}, []int{0, 0, 3}, []int{255, 1, 0}), of([]int{253, 93, 253}, []int{1, 245, 0}, []int{0, 244, 0})},
	} {
		wantMatrix(t, "P4.1: "+r.about, r.m, r.want)
	}
}

// P4.1: each number, alone and along matrices of each size.
func TestNumbers(t *testing.T) {
	for size := 1; size <= api.MaxRows; size++ {
		for x := 1; x < 256; x++ {
			wantMatrix(t, "P4.1: one number", identity(size, x), identity(size, over(x)))
		}
		wantError(t, "P4.1: 0 alone", identity(size, 0), api.ErrInvertSingular)
	}
}

// P4.1: the identity of each size, made here and by layer 3, is its own inverse.
func TestIdentities(t *testing.T) {
	for size := 1; size <= api.MaxRows; size++ {
		wantMatrix(t, "P4.1: the identity", identity(size, 1), identity(size, 1))
		one, _ := matrix.Identity(size)
		wantMatrix(t, "P4.1: layer 3's identity", one, one)
	}
}

// P4.1: all matrices of two rows of these numbers.
func TestAllOfTwoRows(t *testing.T) {
	some := []int{0, 1, 2, 3, 29, 127, 128, 142, 244, 254, 255}
	for _, a := range some {
		for _, b := range some {
			for _, c := range some {
				for _, d := range some {
					wantExpected(t, "P4.1: of two rows", of([]int{a, b}, []int{c, d}))
				}
			}
		}
	}
}

// P4.1: all matrices of three and four rows of 0 and 1, where rows must change places in each way.
func TestAllOfNoughtsAndOnes(t *testing.T) {
	for size := 3; size <= 4; size++ {
		for bits := range 1 << (size * size) {
			m := constant(size, size, 0)
			for place := range size * size {
				m.Rows[place/size][place%size] = bits >> place & 1
			}
			wantExpected(t, "P4.1: of 0 and 1", m)
		}
	}
}

// P4.1: matrices of up to six rows, full and with many noughts, held against determinants.
func TestByDeterminants(t *testing.T) {
	for size := 1; size <= 6; size++ {
		for seed := range 40 {
			wantExpected(t, "P4.1: mixed", mixed(seed, size, size))
			wantExpected(t, "P4.1: sparse", sparse(seed, size))
		}
	}
}

// orders tells each order of the numbers below count.
func orders(count int) [][]int {
	if count == 0 {
		return [][]int{nil}
	}
	var all [][]int
	for _, order := range orders(count - 1) {
		for place := range count {
			all = append(all, slices.Insert(slices.Clone(order), place, count-1))
		}
	}
	return all
}

// ordered has one number in each row, in the column that order names.
func ordered(order []int, number func() int) api.Matrix {
	m := constant(len(order), len(order), 0)
	for row, column := range order {
		m.Rows[row][column] = number()
	}
	return m
}

// eachOne tells 1, where rows are put in another order or added up as they are.
func eachOne() int { return 1 }

// P4.1: rows in each order, of up to six; the inverse is the matrix turned.
func TestAllOrders(t *testing.T) {
	for size := 1; size <= 6; size++ {
		for _, order := range orders(size) {
			m := ordered(order, eachOne)
			wantMatrix(t, "P4.1: rows in another order", m, turned(m))
		}
	}
}

// P4.1: MaxRows rows in other orders, and times numbers.
func TestOrdersOfMaxRows(t *testing.T) {
	for step := range api.MaxRows {
		order := make([]int, api.MaxRows)
		for i := range order {
			order[i] = (i + step) % api.MaxRows
		}
		for range 2 {
			m := ordered(order, eachOne)
			wantMatrix(t, "P4.1: MaxRows rows in another order", m, turned(m))
			next := numbers(step)
			wantBack(t, "P4.1: rows in another order, times numbers", ordered(order, func() int { return 1 + next()%255 }))
			slices.Reverse(order)
		}
	}
}

// triangle has numbers on one side of the diagonal, 0 on the other, and no 0 between.
func triangle(seed, size int) api.Matrix {
	m := mixed(seed, size, size)
	for i, row := range m.Rows {
		for j := range i {
			row[j] = 0
		}
		row[i] = 1 + row[i]%255
	}
	return m
}

// invertible is a product of matrices that have inverses.
func invertible(seed, size int) api.Matrix {
	order := make([]int, size)
	for i := range order {
		order[i] = (i + seed) % size
	}
	if seed%2 == 1 {
		slices.Reverse(order)
	}
	return product(product(turned(triangle(seed, size)), ordered(order, eachOne)), triangle(seed+500, size))
}

// P4.1: matrices of each size that have inverses, whatever their numbers: products both ways, and back again.
func TestAllSizes(t *testing.T) {
	for size := 1; size <= api.MaxRows; size++ {
		for seed := range 30 {
			wantBack(t, "P4.1: a triangle", triangle(seed, size))
			wantBack(t, "P4.1: a triangle, turned", turned(triangle(seed, size)))
			wantBack(t, "P4.1: a product", invertible(seed, size))
		}
	}
}

// P4.1: rows of rising powers of unlike numbers are independent, with 0, 1 and 255 among the numbers.
func TestPowers(t *testing.T) {
	unlike := []int{0, 1, 255, 2, 254, 3, 128, 142, 29, 77, 200, 16}
	for size := 1; size <= api.MaxRows; size++ {
		m := constant(size, size, 1)
		for i, row := range m.Rows {
			for j := 1; j < size; j++ {
				row[j] = times(row[j-1], unlike[i])
			}
		}
		wantBack(t, "P4.1: powers", m)
	}
}

// P4.1: the inverse of a product is the product of the inverses, turned round; by layer 3's Mul.
func TestProducts(t *testing.T) {
	for size := 1; size <= api.MaxRows; size++ {
		a, b := invertible(size, size), invertible(size+50, size)
		ab, _ := matrix.Mul(a, b)
		backA, _ := Invert(a)
		backB, _ := Invert(b)
		want, _ := matrix.Mul(backB, backA)
		wantMatrix(t, "P4.1: a product", ab, want)
	}
}

// wantSingular asks for no inverse of m, nor of m turned.
func wantSingular(t *testing.T, about string, m api.Matrix) {
	t.Helper()
	wantError(t, about, m, api.ErrInvertSingular)
	wantError(t, about+", turned", turned(m), api.ErrInvertSingular)
}

// P4.1: matrices of one number, wherever the rest is 0 or all is alike.
func TestSingularConstants(t *testing.T) {
	for size := 1; size <= api.MaxRows; size++ {
		wantSingular(t, "P4.1: all noughts", constant(size, size, 0))
	}
	for size := 2; size <= api.MaxRows; size++ {
		for _, x := range []int{1, 2, 255} {
			wantSingular(t, "P4.1: all alike", constant(size, size, x))
			wantSingular(t, "P4.1: one number alone", with(constant(size, size, 0), size-1, 0, x))
		}
	}
}

// P4.1: a row, and a column, of noughts, in each place.
func TestSingularNoughts(t *testing.T) {
	for size := 1; size <= api.MaxRows; size++ {
		for _, m := range []api.Matrix{identity(size, 1), invertible(size, size)} {
			for row := range size {
				m := clone(m)
				clear(m.Rows[row])
				wantSingular(t, "P4.1: a row of noughts", m)
			}
		}
	}
}

// P4.1: a row, and a column, that is another one times a number, for each two of them.
func TestSingularTimes(t *testing.T) {
	for size := 2; size <= api.MaxRows; size++ {
		for from := range size {
			for to := range size {
				for _, c := range []int{1, 2, 255} {
					m := invertible(size+from, size)
					for j, x := range m.Rows[from] {
						m.Rows[to][j] = times(c, x)
					}
					if from != to {
						wantSingular(t, "P4.1: a row that is another one times a number", m)
					}
				}
			}
		}
	}
}

// sumOfOthers is the sum of all rows but one, each times a number.
func sumOfOthers(m api.Matrix, but int, factor func() int) []int {
	sum := make([]int, len(m.Rows))
	for i, row := range m.Rows {
		if i == but {
			continue
		}
		c := factor()
		for j, x := range row {
			sum[j] ^= times(c, x)
		}
	}
	return sum
}

// P4.1: a row, and a column, that is the sum of others, in each place; with the row that was there added, there is an inverse.
func TestSingularSums(t *testing.T) {
	for size := 2; size <= api.MaxRows; size++ {
		for to := range size {
			for _, factor := range []func() int{eachOne, numbers(to)} {
				m := invertible(size*to, size)
				was := m.Rows[to]
				m.Rows[to] = sumOfOthers(m, to, factor)
				wantSingular(t, "P4.1: a row that is the sum of others", m)
				for j, x := range was {
					m.Rows[to][j] ^= x
				}
				wantBack(t, "P4.1: a row and the sum of others", m)
			}
		}
	}
}

// P4.1: a product of narrow matrices has no inverse.
func TestSingularProducts(t *testing.T) {
	for size := 2; size <= api.MaxRows; size++ {
		for inner := 1; inner < size; inner++ {
			m := product(mixed(size, size, inner), mixed(inner, inner, size))
			wantSingular(t, "P4.1: a product of narrow ones", m)
		}
	}
}

// P4.1: as many rows as columns, or ErrInvertForm, also where nothing but noughts would be there.
func TestNotSquare(t *testing.T) {
	for rows := 1; rows <= api.MaxRows; rows++ {
		for columns := 1; columns <= api.MaxRows; columns++ {
			if rows != columns {
				wantError(t, "P4.1: not square, noughts", constant(rows, columns, 0), api.ErrInvertForm)
				wantError(t, "P4.1: not square, mixed", mixed(rows+columns, rows, columns), api.ErrInvertForm)
			}
		}
	}
}

// P4.1: no rows, rows of no numbers, and more than MaxRows of either; nil and an empty list are one.
func TestWrongCounts(t *testing.T) {
	const beyond = api.MaxRows + 1
	for _, r := range []struct {
		about string
		m     api.Matrix
	}{
		{"nil", of()},
		{"no rows", api.Matrix{Rows: [][]int{}}},
		{"a nil row", of(nil)},
		{"a row of no numbers", of([]int{})},
		{"two rows of no numbers", of(nil, []int{})},
		{"MaxRows rows of no numbers", constant(api.MaxRows, 0, 0)},
		{"a row and a column too many", identity(beyond, 1)},
		{"a row and a column too many, noughts", constant(beyond, beyond, 0)},
		{"a row too many", constant(beyond, api.MaxRows, 1)},
		{"a column too many", constant(api.MaxRows, beyond, 1)},
		{"a row too many, of no numbers", constant(beyond, 0, 0)},
		{"many rows and columns", identity(500, 1)},
		{"many rows", constant(50000, 1, 1)},
		{"many columns", constant(1, 50000, 1)},
	} {
		wantError(t, "P4.1: "+r.about, r.m, api.ErrInvertForm)
	}
}

// P4.1: a row that is shorter or longer than the others, in each place.
func TestUnlikeRows(t *testing.T) {
	for size := 2; size <= api.MaxRows; size++ {
		for place := range size {
			for _, length := range []int{0, size - 1, size + 1, api.MaxRows + 1} {
				for _, m := range []api.Matrix{identity(size, 1), constant(size, size, 0)} {
					m.Rows[place] = make([]int, length)
					wantError(t, "P4.1: rows of unlike lengths", m, api.ErrInvertForm)
				}
			}
		}
	}
}

// P4.1, R6: a number that the field does not have, in each place, also where there were no inverse anyway.
func TestNumbersOutside(t *testing.T) {
	for _, x := range []int{-1, -255, -256, 256, 257, 285, 1 << 32, math.MinInt, math.MaxInt} {
		for _, size := range []int{1, 2, 3, api.MaxRows} {
			for place := range size * size {
				for _, m := range []api.Matrix{identity(size, 1), constant(size, size, 0)} {
					wantError(t, "P4.1: a number outside", with(m, place/size, place%size, x), api.ErrInvertForm)
				}
			}
		}
	}
}

// spoil writes over each number of m, and over the spare room behind its rows.
func spoil(m api.Matrix) {
	for _, row := range m.Rows[:cap(m.Rows)] {
		for i := range row[:cap(row)] {
			row[:cap(row)][i] = -1000
		}
	}
}

// R4: what is answered shares no memory with what is handed in, nor row with row.
func TestAnswersAreNew(t *testing.T) {
	for _, m := range []api.Matrix{identity(1, 1), identity(4, 1), ordered([]int{3, 1, 0, 2}, eachOne), invertible(1, api.MaxRows)} {
		old := clone(m)
		got, _ := Invert(m)
		for row := range got.Rows {
			others := clone(got)
			spoil(of(got.Rows[row]))
			others.Rows[row] = got.Rows[row]
			if !equal(got, others) {
				t.Errorf("R4: row %d shares memory with another", row)
			}
		}
		spoil(got)
		if !equal(m, old) {
			t.Fatalf("R4: shares memory with what was handed in, now %v", m)
		}
	}
}

// R4, R5: answers of two calls share no memory, and the second does not hang on the first, nor on one of a greater matrix or of an error.
func TestAnswersDoNotHangTogether(t *testing.T) {
	m := of([]int{1, 2}, []int{3, 4})
	for range 3 {
		wantMatrix(t, "R5: Invert", m, of([]int{2, 1}, []int{143, 142}))
		got, _ := Invert(m)
		spoil(got)
		Invert(invertible(2, api.MaxRows))
		Invert(constant(2, 2, 9))
		Invert(of([]int{256}))
	}
}

// R4: what is handed in stays as it is, its spare room too, beside an answer and beside each error.
func TestArgumentsStay(t *testing.T) {
	for _, front := range [][][]int{
		{{0, 2}, {255, 7}},
		{{0, 2}, {0, 3}},
		{{0, 2}, {3, 256}},
		{{0, 2}, {3}},
		{{0, 2, 1}, {3, 0, 1}},
	} {
		whole := mixed(6, 4, 6)
		for i, row := range front {
			copy(whole.Rows[i], row)
		}
		old := clone(whole)
		m := of(slices.Clone(whole.Rows)...)
		for i, row := range front {
			m.Rows[i] = whole.Rows[i][:len(row)]
		}
		m.Rows = m.Rows[:2]
		Invert(m)
		if !equal(whole, old) || len(m.Rows[0]) != len(front[0]) || len(m.Rows[1]) != len(front[1]) || &m.Rows[0][0] != &whole.Rows[0][0] {
			t.Errorf("R4: %v: now %v", front, whole)
		}
		if behind := of(m.Rows[2:4]...); !equal(behind, of(old.Rows[2:]...)) {
			t.Errorf("R4: %v: spare room is now %v", front, behind)
		}
	}
}

// R4: rows that are one in memory are no fault, but they are not independent.
func TestOneRowTwice(t *testing.T) {
	row := []int{1, 2}
	wantError(t, "P4.1: one row twice", of(row, row), api.ErrInvertSingular)
	if !slices.Equal(row, []int{1, 2}) {
		t.Errorf("R4: now %v", row)
	}
}

// R5: the same from several goroutines at one time.
func TestAtOneTime(t *testing.T) {
	m := invertible(3, api.MaxRows)
	want, _ := Invert(m)
	none := constant(api.MaxRows, api.MaxRows, 1)
	var all sync.WaitGroup
	for range 8 {
		all.Go(func() {
			for range 20 {
				if got, err := Invert(m); !equal(got, want) || err != api.OK {
					t.Errorf("R5: %v, error %d", got, err)
				}
				if got, err := Invert(none); got.Rows != nil || err != api.ErrInvertSingular {
					t.Errorf("R5: %v, error %d", got, err)
				}
			}
		})
	}
	all.Wait()
}
