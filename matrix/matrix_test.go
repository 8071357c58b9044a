package matrix

import (
	"math"
	"slices"
	"sync"
	"testing"

	"ossuary/api"
)

// of makes a matrix of these rows.
func of(rows ...[]int) api.Matrix { return api.Matrix{Rows: rows} }

// constant makes a matrix in which each number is x.
func constant(rows, columns, x int) api.Matrix {
	var m api.Matrix
	for range rows {
		m.Rows = append(m.Rows, slices.Repeat([]int{x}, columns))
	}
	return m
}

// mixed makes a matrix of numbers of all kinds, unlike from seed to seed.
func mixed(seed, rows, columns int) api.Matrix {
	x := uint32(seed)*2654435761 + 1
	m := constant(rows, columns, 0)
	for _, row := range m.Rows {
		for column := range row {
			x = x*1664525 + 1013904223
			row[column] = int(x >> 24)
		}
	}
	return m
}

// with is a copy of m that has x in one place.
func with(m api.Matrix, row, column, x int) api.Matrix {
	m = clone(m)
	m.Rows[row][column] = x
	return m
}

func clone(m api.Matrix) api.Matrix {
	var out api.Matrix
	for _, row := range m.Rows {
		out.Rows = append(out.Rows, slices.Clone(row))
	}
	return out
}

func equal(a, b api.Matrix) bool {
	return slices.EqualFunc(a.Rows, b.Rows, func(x, y []int) bool { return slices.Equal(x, y) })
}

// times multiplies by doubling alone, apart from the program's field.
func times(a, b int) int {
	x := 0
	for ; b > 0; b /= 2 {
		if b%2 == 1 {
			x ^= a
		}
		a *= 2
		if a > 255 {
			a ^= 285
		}
	}
	return x
}

// expected adds up matrix by matrix, a column of a times a row of b each, not number by number as the program does.
func expected(a, b api.Matrix) api.Matrix {
	sum := constant(len(a.Rows), len(b.Rows[0]), 0)
	for k, factors := range b.Rows {
		for row := range sum.Rows {
			for column, factor := range factors {
				sum.Rows[row][column] ^= times(a.Rows[row][k], factor)
			}
		}
	}
	return sum
}

func wantMatrix(t *testing.T, call string, got api.Matrix, err api.Errno, want api.Matrix) {
	t.Helper()
	if !equal(got, want) || err != api.OK {
		t.Fatalf("%s: %v, error %d; want %v", call, got, err, want)
	}
}

func wantFormError(t *testing.T, call string, got api.Matrix, err api.Errno) {
	t.Helper()
	if got.Rows != nil || err != api.ErrMatrixForm {
		t.Errorf("%s: %v, error %d; want none, error %d", call, got, err, api.ErrMatrixForm)
	}
}

// wrong is a matrix that may not be, and why.
type wrong struct {
	about string
	m     api.Matrix
}

func wrongMatrices() []wrong {
	all := []wrong{
		{"nil", of()},
		{"no rows", api.Matrix{Rows: [][]int{}}},
		{"a row of no numbers", of([]int{})},
		{"a nil row", of(nil)},
		{"rows of no numbers", constant(api.MaxRows, 0, 0)},
		{"a row too many", constant(api.MaxRows+1, 1, 1)},
		{"a row too many, wide", constant(api.MaxRows+1, api.MaxRows, 1)},
		{"rows too many, of no numbers", constant(api.MaxRows+1, 0, 0)},
		{"many rows", constant(5000, 2, 1)},
		{"a column too many", constant(1, api.MaxRows+1, 1)},
		{"a column too many, high", constant(api.MaxRows, api.MaxRows+1, 1)},
		{"many columns", constant(2, 5000, 1)},
	}
	return slices.Concat(all, unlikeRows(), outsideNumbers())
}

// unlikeRows: a row that is shorter or longer than the others, in each place.
func unlikeRows() (all []wrong) {
	for count := 2; count <= api.MaxRows; count++ {
		for place := range count {
			for _, length := range []int{0, 1, 3, api.MaxRows, api.MaxRows + 1} {
				m := constant(count, 2, 1)
				m.Rows[place] = slices.Repeat([]int{1}, length)
				all = append(all, wrong{"rows of unlike lengths", m})
			}
		}
	}
	return all
}

// outsideNumbers: a number that the field does not have, in each place.
func outsideNumbers() (all []wrong) {
	for _, x := range []int{-1, -255, -256, 256, 257, 285, 1 << 32, math.MinInt, math.MaxInt} {
		for _, size := range []struct{ rows, columns int }{{1, 1}, {1, 3}, {3, 1}, {2, 2}, {api.MaxRows, api.MaxRows}} {
			m := constant(size.rows, size.columns, 1)
			for row := range size.rows {
				for column := range size.columns {
					all = append(all, wrong{"a number outside", with(m, row, column, x)})
				}
			}
		}
	}
	return all
}

// P3.1: matrices of each size, with the field's least and greatest numbers.
func TestMay(t *testing.T) {
	for rows := 1; rows <= api.MaxRows; rows++ {
		for columns := 1; columns <= api.MaxRows; columns++ {
			for _, x := range []int{0, 1, 255} {
				if m := constant(rows, columns, x); !May(m) {
					t.Errorf("P3.1: May(%v): false", m)
				}
			}
			if m := mixed(rows*20+columns, rows, columns); !May(m) {
				t.Errorf("P3.1: May(%v): false", m)
			}
		}
	}
}

// P3.1: each kind of matrix that may not be.
func TestMayNot(t *testing.T) {
	for _, w := range wrongMatrices() {
		if May(w.m) {
			t.Errorf("P3.1: %s: May(%v): true", w.about, w.m)
		}
	}
}

// P3.1: identities that are told by hand.
func TestKnownIdentities(t *testing.T) {
	for k, want := range []api.Matrix{
		1: of([]int{1}),
		2: of([]int{1, 0}, []int{0, 1}),
		3: of([]int{1, 0, 0}, []int{0, 1, 0}, []int{0, 0, 1}),
	} {
		if k > 0 {
			got, err := Identity(k)
			wantMatrix(t, "P3.1: Identity", got, err, want)
		}
	}
}

// P3.1: identities from 1 to MaxRows.
func TestAllIdentities(t *testing.T) {
	for k := 1; k <= api.MaxRows; k++ {
		want := constant(k, k, 0)
		for i := range k {
			want.Rows[i][i] = 1
		}
		got, err := Identity(k)
		wantMatrix(t, "P3.1: Identity", got, err, want)
		if !May(got) {
			t.Errorf("P3.1: Identity(%d) may not be", k)
		}
	}
}

// P3.1: no identity is as small, or as great.
func TestNoIdentity(t *testing.T) {
	for _, k := range []int{0, -1, -12, api.MaxRows + 1, 256, 1<<32 + 1, math.MinInt, math.MaxInt} {
		got, err := Identity(k)
		wantFormError(t, "P3.1: Identity", got, err)
	}
}

// P3.2: products that are told by hand.
func TestKnownProducts(t *testing.T) {
	for _, r := range []struct {
		about      string
		a, b, want api.Matrix
	}{
		{"0 and 255", of([]int{0}), of([]int{255}), of([]int{0})},
		{"1 and 255", of([]int{1}), of([]int{255}), of([]int{255})},
		{"255 and 255", of([]int{255}), of([]int{255}), of([]int{226})},
		{"2 and 128", of([]int{2}), of([]int{128}), of([]int{29})},
		{"a row and a column", of([]int{1, 2, 3}), of([]int{4}, []int{128}, []int{3}), of([]int{28})},
		{"a column and a row", of([]int{2}, []int{3}), of([]int{1, 128, 3}), of([]int{2, 29, 6}, []int{3, 157, 5})},
		{"two of two", of([]int{1, 2}, []int{0, 1}), of([]int{3, 0}, []int{128, 1}), of([]int{30, 2}, []int{128, 1})},
		{"two of two, turned round", of([]int{3, 0}, []int{128, 1}), of([]int{1, 2}, []int{0, 1}), of([]int{3, 6}, []int{128, 28})},
		{"sums that cancel out", of([]int{1, 1}), of([]int{77, 255}, []int{77, 255}), of([]int{0, 0})},
	} {
		got, err := Mul(r.a, r.b)
		wantMatrix(t, "P3.2: Mul, "+r.about, got, err, r.want)
	}
}

// P3.2: products of each size.
func TestAllSizesOfProducts(t *testing.T) {
	for rows := 1; rows <= api.MaxRows; rows++ {
		for inner := 1; inner <= api.MaxRows; inner++ {
			for columns := 1; columns <= api.MaxRows; columns++ {
				a, b := mixed(rows*columns, rows, inner), mixed(rows+columns+300, inner, columns)
				got, err := Mul(a, b)
				wantMatrix(t, "P3.2: Mul", got, err, expected(a, b))
			}
		}
	}
}

// P3.2: the greatest matrices, of the field's least and greatest numbers.
func TestProductsOfEdges(t *testing.T) {
	for _, x := range []int{0, 1, 255} {
		for _, y := range []int{0, 1, 255} {
			for inner := api.MaxRows - 1; inner <= api.MaxRows; inner++ {
				got, err := Mul(constant(api.MaxRows, inner, x), constant(inner, api.MaxRows, y))
				want := constant(api.MaxRows, api.MaxRows, inner%2*times(x, y))
				wantMatrix(t, "P3.2: Mul", got, err, want)
			}
		}
	}
}

// P3.2: each pair of numbers.
func TestProductsOfAllNumbers(t *testing.T) {
	for a := range 256 {
		for b := range 256 {
			got, err := Mul(of([]int{a}), of([]int{b}))
			wantMatrix(t, "P3.2: Mul", got, err, of([]int{times(a, b)}))
		}
	}
}

// P3.1, P3.2: a product with the identity, on either side, is the other matrix.
func TestProductsWithIdentities(t *testing.T) {
	for rows := 1; rows <= api.MaxRows; rows++ {
		for columns := 1; columns <= api.MaxRows; columns++ {
			m := mixed(rows*30+columns, rows, columns)
			left, _ := Identity(rows)
			right, _ := Identity(columns)
			got, err := Mul(left, m)
			wantMatrix(t, "P3.2: Mul, the identity ahead", got, err, m)
			got, err = Mul(m, right)
			wantMatrix(t, "P3.2: Mul, the identity behind", got, err, m)
		}
	}
}

// P3.2, T1: a product of three is the same in whichever grouping.
func TestProductsOfThree(t *testing.T) {
	for seed := range 100 {
		a, b, c := mixed(seed, 1+seed%5, 1+seed%7), mixed(seed+100, 1+seed%7, 1+seed%12), mixed(seed+200, 1+seed%12, 1+seed%4)
		ab, _ := Mul(a, b)
		bc, _ := Mul(b, c)
		want, _ := Mul(a, bc)
		got, err := Mul(ab, c)
		wantMatrix(t, "P3.2: Mul, of three", got, err, want)
	}
}

// P3.2: a matrix that may not be, on either side and on both.
func TestProductsOfWrongMatrices(t *testing.T) {
	for _, w := range wrongMatrices() {
		for size := 1; size <= api.MaxRows; size++ {
			good, _ := Identity(size)
			got, err := Mul(w.m, good)
			wantFormError(t, "P3.2: Mul, first: "+w.about, got, err)
			got, err = Mul(good, w.m)
			wantFormError(t, "P3.2: Mul, second: "+w.about, got, err)
		}
		got, err := Mul(w.m, w.m)
		wantFormError(t, "P3.2: Mul, both: "+w.about, got, err)
	}
}

// P3.2: matrices that do not fit each other, also where they would the other way round.
func TestProductsThatDoNotFit(t *testing.T) {
	for length := 1; length <= api.MaxRows; length++ {
		for rows := 1; rows <= api.MaxRows; rows++ {
			if length == rows {
				continue
			}
			for _, other := range []int{1, rows, length, api.MaxRows} {
				got, err := Mul(constant(other, length, 1), constant(rows, other, 1))
				wantFormError(t, "P3.2: Mul, not fitting", got, err)
				got, err = Mul(constant(other, length, 0), constant(rows, other, 0))
				wantFormError(t, "P3.2: Mul, not fitting, zeros", got, err)
			}
		}
	}
}

// P3.2: picks that are told by hand: in another order, of one row twice, of some alone.
func TestKnownPicks(t *testing.T) {
	first, second, third := []int{0, 1}, []int{255, 2}, []int{7, 0}
	m := of(first, second, third)
	for _, r := range []struct {
		rows []int
		want api.Matrix
	}{
		{[]int{0}, of(first)},
		{[]int{2}, of(third)},
		{[]int{0, 1, 2}, m},
		{[]int{2, 1, 0}, of(third, second, first)},
		{[]int{1, 0}, of(second, first)},
		{[]int{0, 2}, of(first, third)},
		{[]int{1, 1}, of(second, second)},
		{[]int{2, 0, 2, 2}, of(third, first, third, third)},
	} {
		got, err := Pick(m, r.rows)
		wantMatrix(t, "P3.2: Pick", got, err, r.want)
	}
}

// P3.2: any count of rows, more than the matrix has among them, of matrices of each size.
func TestAllSizesOfPicks(t *testing.T) {
	for height := 1; height <= api.MaxRows; height++ {
		for width := 1; width <= api.MaxRows; width++ {
			m := mixed(height*40+width, height, width)
			for count := 1; count <= api.MaxRows; count++ {
				var rows []int
				var want api.Matrix
				for i := range count {
					row := (height - 1 + i*(width+1)) % height
					rows, want.Rows = append(rows, row), append(want.Rows, m.Rows[row])
				}
				got, err := Pick(m, rows)
				wantMatrix(t, "P3.2: Pick", got, err, want)
			}
		}
	}
}

// P3.2: a matrix that may not be, also where the picked row alone may be one.
func TestPicksOfWrongMatrices(t *testing.T) {
	for _, w := range wrongMatrices() {
		for row := range max(1, min(len(w.m.Rows), api.MaxRows+1)) {
			got, err := Pick(w.m, []int{row})
			wantFormError(t, "P3.2: Pick: "+w.about, got, err)
		}
		got, err := Pick(w.m, nil)
		wantFormError(t, "P3.2: Pick, of no rows: "+w.about, got, err)
	}
}

// P3.2: no rows, or too many; nil and an empty list are one.
func TestPicksOfWrongCounts(t *testing.T) {
	for _, m := range []api.Matrix{constant(1, 1, 1), constant(api.MaxRows, api.MaxRows, 1)} {
		for _, rows := range [][]int{nil, {}, make([]int, api.MaxRows+1), make([]int, 5000)} {
			got, err := Pick(m, rows)
			wantFormError(t, "P3.2: Pick, count", got, err)
		}
	}
}

// P3.2: rows that the matrix does not have, in each place of the list.
func TestPicksOutside(t *testing.T) {
	for height := 1; height <= api.MaxRows; height++ {
		for _, outside := range []int{-1, -height, height, height + 1, 256, 1 << 32, math.MinInt, math.MaxInt} {
			for count := 1; count <= api.MaxRows; count++ {
				for place := range count {
					rows := make([]int, count)
					rows[place] = outside
					got, err := Pick(constant(height, api.MaxRows, 1), rows)
					wantFormError(t, "P3.2: Pick, outside", got, err)
				}
			}
		}
	}
}

// spoil writes over each number of m, and over the spare room behind its rows.
func spoil(m api.Matrix) {
	for _, row := range m.Rows[:cap(m.Rows)] {
		for i := range row[:cap(row)] {
			row[:cap(row)][i] = -1000
		}
	}
}

// wantApart spoils the rows of an answer one by one: no other row of it changes.
func wantApart(t *testing.T, call string, m api.Matrix) {
	t.Helper()
	for row := range m.Rows {
		others := clone(m)
		spoil(of(m.Rows[row]))
		others.Rows[row] = m.Rows[row]
		if !equal(m, others) {
			t.Errorf("R4: %s: row %d shares memory with another", call, row)
		}
	}
}

// R4: what is answered shares no memory with an argument, nor row with row.
func TestAnswersAreNew(t *testing.T) {
	a, b := mixed(1, 3, 3), mixed(2, 3, 3)
	oldA, oldB := clone(a), clone(b)
	rows := []int{1, 1, 0}
	one, _ := Identity(3)
	square, _ := Mul(a, a)
	product, _ := Mul(a, b)
	same, _ := Mul(one, a)
	picked, _ := Pick(a, rows)
	for call, m := range map[string]api.Matrix{"Identity": one, "Mul": product, "Mul, of one twice": square, "Mul, by the identity": same, "Pick": picked} {
		wantApart(t, call, m)
		spoil(m)
		if !equal(a, oldA) || !equal(b, oldB) || !slices.Equal(rows, []int{1, 1, 0}) {
			t.Fatalf("R4: %s shares memory with an argument", call)
		}
	}
}

// R4, R5: answers of two calls share no memory, and the second does not hang on the first.
func TestAnswersDoNotHangTogether(t *testing.T) {
	a := mixed(3, 4, 4)
	for range 3 {
		one, err := Identity(4)
		wantMatrix(t, "R5: Identity", one, err, of([]int{1, 0, 0, 0}, []int{0, 1, 0, 0}, []int{0, 0, 1, 0}, []int{0, 0, 0, 1}))
		square, err := Mul(a, a)
		wantMatrix(t, "R5: Mul", square, err, expected(a, a))
		picked, err := Pick(a, []int{3, 0})
		wantMatrix(t, "R5: Pick", picked, err, of(a.Rows[3], a.Rows[0]))
		spoil(one)
		spoil(square)
		spoil(picked)
	}
}

// R4: what is handed in stays as it is, its spare room too, beside an answer and beside an error.
func TestArgumentsStay(t *testing.T) {
	whole := mixed(4, 4, 6)
	old := clone(whole)
	m := of(whole.Rows[0][:2], whole.Rows[1][:2], whole.Rows[2][:2], whole.Rows[3][:2])
	m.Rows = m.Rows[:2]
	rows := []int{1, 0, 77, 78}
	May(m)
	Mul(m, m)
	Mul(m, of([]int{1}))
	Pick(m, rows[:2])
	Pick(m, rows)
	if !equal(whole, old) || !slices.Equal(rows, []int{1, 0, 77, 78}) || len(m.Rows[:4][3]) != 2 {
		t.Errorf("R4: now %v, %v", whole, rows)
	}
}

// R5: the same from several goroutines at one time.
func TestAtOneTime(t *testing.T) {
	a := mixed(5, api.MaxRows, api.MaxRows)
	want := expected(a, a)
	var all sync.WaitGroup
	for range 8 {
		all.Go(func() {
			for range 20 {
				if got, err := Mul(a, a); !equal(got, want) || err != api.OK {
					t.Errorf("R5: Mul: %v, error %d", got, err)
				}
				if got, err := Pick(a, []int{5, 5, 0}); !equal(got, of(a.Rows[5], a.Rows[5], a.Rows[0])) || err != api.OK {
					t.Errorf("R5: Pick: %v, error %d", got, err)
				}
			}
		})
	}
	all.Wait()
}
