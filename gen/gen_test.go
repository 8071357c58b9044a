package gen

import (
	"math"
	"slices"
	"sync"
	"testing"

	"ossuary/api"
	"ossuary/invert"
	"ossuary/matrix"
)

// of makes a matrix of these rows.
func of(rows ...[]int) api.Matrix { return api.Matrix{Rows: rows} }

func shape(data, parity int) api.Shape { return api.Shape{Data: data, Parity: parity} }

// shapes tells all that may be.
func shapes() (all []api.Shape) {
	for data := 1; data <= 4; data++ {
		for parity := 0; parity <= 2; parity++ {
			all = append(all, shape(data, parity))
		}
	}
	return all
}

// wrongShapes tells shapes of which Data, Parity or both may not be.
func wrongShapes() (all []api.Shape) {
	outsideData := []int{0, -1, -2, -4, 5, 6, 12, 256, 1<<32 + 1, math.MinInt, math.MinInt + 1, math.MaxInt}
	outsideParity := []int{-1, -2, 3, 4, 256, 1 << 32, math.MinInt, math.MinInt + 1, math.MaxInt}
	for _, data := range outsideData {
		for parity := range 3 {
			all = append(all, shape(data, parity))
		}
		for _, parity := range outsideParity {
			all = append(all, shape(data, parity))
		}
	}
	for data := 1; data <= 4; data++ {
		for _, parity := range outsideParity {
			all = append(all, shape(data, parity))
		}
	}
	return all
}

// known tells the matrices of all shapes, written out.
func known() map[api.Shape]api.Matrix {
	return map[api.Shape]api.Matrix{
		shape(1, 0): of([]int{1}),
		shape(1, 1): of([]int{1}, []int{1}),
		shape(1, 2): of([]int{1}, []int{1}, []int{1}),
		shape(2, 0): of([]int{1, 0}, []int{0, 1}),
		shape(2, 1): of([]int{1, 0}, []int{0, 1}, []int{3, 2}),
		shape(2, 2): of([]int{1, 0}, []int{0, 1}, []int{3, 2}, []int{2, 3}),
		shape(3, 0): of([]int{1, 0, 0}, []int{0, 1, 0}, []int{0, 0, 1}),
		shape(3, 1): of([]int{1, 0, 0}, []int{0, 1, 0}, []int{0, 0, 1}, []int{1, 1, 1}),
		shape(3, 2): of([]int{1, 0, 0}, []int{0, 1, 0}, []int{0, 0, 1}, []int{1, 1, 1}, []int{15, 8, 6}),
		shape(4, 0): of([]int{1, 0, 0, 0}, []int{0, 1, 0, 0}, []int{0, 0, 1, 0}, []int{0, 0, 0, 1}),
		shape(4, 1): of([]int{1, 0, 0, 0}, []int{0, 1, 0, 0}, []int{0, 0, 1, 0}, []int{0, 0, 0, 1}, []int{27, 28, 18, 20}),
		shape(4, 2): of([]int{1, 0, 0, 0}, []int{0, 1, 0, 0}, []int{0, 0, 1, 0}, []int{0, 0, 0, 1}, []int{27, 28, 18, 20}, []int{28, 27, 20, 18}),
	}
}

func clone(m api.Matrix) api.Matrix {
	var out api.Matrix
	for _, row := range m.Rows {
		out.Rows = append(out.Rows, slices.Clone(row))
	}
	return out
}

func equal(a, b api.Matrix) bool {
	return slices.EqualFunc(a.Rows, b.Rows, func(x, y []int) bool { return slices.Equal(x, y) })
}

// times multiplies by doubling alone, apart from the program's field.
func times(a, b int) int {
	x := 0
	for ; b > 0; b /= 2 {
		if b%2 == 1 {
			x ^= a
		}
		a *= 2
		if a > 255 {
			a ^= 285
		}
	}
	return x
}

// over looks for the number whose product with a is 1.
func over(a int) int {
	for b := range 256 {
		if times(a, b) == 1 {
			return b
		}
	}
	return 0
}

// product multiplies apart from the program's matrices.
func product(a, b api.Matrix) api.Matrix {
	var out api.Matrix
	for _, factors := range a.Rows {
		row := make([]int, len(b.Rows[0]))
		for k, factor := range factors {
			for column, x := range b.Rows[k] {
				row[column] ^= times(factor, x)
			}
		}
		out.Rows = append(out.Rows, row)
	}
	return out
}

func identity(size int) api.Matrix {
	var m api.Matrix
	for i := range size {
		row := make([]int, size)
		row[i] = 1
		m.Rows = append(m.Rows, row)
	}
	return m
}

// vander has the powers of 0, 1, and so on, in its rows, made apart from the program's Pow.
func vander(rows, columns int) api.Matrix {
	var m api.Matrix
	for i := range rows {
		row := []int{1}
		for len(row) < columns {
			row = append(row, times(row[len(row)-1], i))
		}
		m.Rows = append(m.Rows, row)
	}
	return m
}

// interpolated works the matrix out without an inverse: row i tells what a polynomial is at i, of what it is at the first places.
func interpolated(s api.Shape) api.Matrix {
	var m api.Matrix
	for i := range s.Data + s.Parity {
		row := make([]int, s.Data)
		for j := range row {
			row[j] = 1
			for k := range s.Data {
				if k != j {
					row[j] = times(row[j], times(i^k, over(j^k)))
				}
			}
		}
		m.Rows = append(m.Rows, row)
	}
	return m
}

// choices tells each choice of count of the numbers below all, in each order.
func choices(all, count int) [][]int {
	if count == 0 {
		return [][]int{nil}
	}
	var out [][]int
	for _, fewer := range choices(all, count-1) {
		for next := range all {
			if !slices.Contains(fewer, next) {
				out = append(out, append(slices.Clone(fewer), next))
			}
		}
	}
	return out
}

// ask asks for the matrix of a shape that may be.
func ask(t *testing.T, s api.Shape) api.Matrix {
	t.Helper()
	m, err := Matrix(s)
	if err != api.OK {
		t.Fatalf("P5.1: Matrix(%v): error %d", s, err)
	}
	return m
}

func wantMatrix(t *testing.T, about string, s api.Shape, want api.Matrix) {
	t.Helper()
	if got := ask(t, s); !equal(got, want) {
		t.Fatalf("%s: Matrix(%v): %v; want %v", about, s, got, want)
	}
}

func wantFormError(t *testing.T, about string, s api.Shape) {
	t.Helper()
	if m, err := Matrix(s); m.Rows != nil || err != api.ErrGenForm {
		t.Errorf("%s: Matrix(%v): %v, error %d; want none, error %d", about, s, m, err, api.ErrGenForm)
	}
}

// P5.1: the limits are those of the document.
func TestLimits(t *testing.T) {
	if api.MaxData != 4 || api.MaxParity != 2 || api.ErrGenForm != 500 {
		t.Errorf("MaxData %d, MaxParity %d, ErrGenForm %d", api.MaxData, api.MaxParity, api.ErrGenForm)
	}
}

// P5.1: each shape that may be, the least and the greatest Data and Parity among them.
func TestMay(t *testing.T) {
	for _, s := range shapes() {
		if !May(s) {
			t.Errorf("P5.1: May(%v): false", s)
		}
	}
}

// P5.1: Data, Parity or both below or above what may be.
func TestMayNot(t *testing.T) {
	for _, s := range wrongShapes() {
		if May(s) {
			t.Errorf("P5.1: May(%v): true", s)
		}
		wantFormError(t, "P5.1", s)
	}
	if May(api.Shape{}) {
		t.Error("P5.1: May of no shape: true")
	}
}

// P5.1: all shapes around the edges: just those that may be have a matrix.
func TestAround(t *testing.T) {
	count := 0
	for data := -20; data <= 20; data++ {
		for parity := -20; parity <= 20; parity++ {
			s := shape(data, parity)
			_, may := known()[s]
			m, err := Matrix(s)
			if May(s) != may || (err == api.OK) != may || (m.Rows != nil) != may {
				t.Errorf("P5.1: %v: May %v; Matrix %v, error %d", s, May(s), m, err)
			}
			if may {
				count++
			}
		}
	}
	if count != 12 {
		t.Errorf("P5.1: %d shapes", count)
	}
}

// P5.1: the matrices of all shapes, written out.
func TestKnownMatrices(t *testing.T) {
	for _, s := range shapes() {
		wantMatrix(t, "P5.1: written out", s, known()[s])
	}
}

// P5.1: the same, worked out by polynomials, without an inverse.
func TestByPolynomials(t *testing.T) {
	for _, s := range shapes() {
		wantMatrix(t, "P5.1: by polynomials", s, interpolated(s))
	}
}

// P5.1: the matrix, times V's first rows, is V; as these have an inverse, no other matrix is so.
func TestBackToPowers(t *testing.T) {
	for _, s := range shapes() {
		v := vander(s.Data+s.Parity, s.Data)
		if got := product(ask(t, s), of(v.Rows[:s.Data]...)); !equal(got, v) {
			t.Errorf("P5.1: %v: times V's first rows: %v; want %v", s, got, v)
		}
	}
}

// P5.1, P5.2: Data and Parity rows, of Data numbers each, the first Data of them the identity; a matrix of layer 3.
func TestIdentityFirst(t *testing.T) {
	for _, s := range shapes() {
		m := ask(t, s)
		if len(m.Rows) != s.Data+s.Parity || !matrix.May(m) {
			t.Fatalf("P5.1: Matrix(%v): %v", s, m)
		}
		if first := of(m.Rows[:s.Data]...); !equal(first, identity(s.Data)) {
			t.Errorf("P5.2: %v: first rows %v", s, first)
		}
	}
}

// P5.2: each choice of Data of the rows, in each order, has an inverse: it brings the choice back to the identity.
func TestAnyRowsInvert(t *testing.T) {
	for _, s := range shapes() {
		m := ask(t, s)
		for _, rows := range choices(s.Data+s.Parity, s.Data) {
			some, err := matrix.Pick(m, rows)
			if err != api.OK {
				t.Fatalf("P5.2: %v: Pick %v: error %d", s, rows, err)
			}
			back, err := invert.Invert(some)
			if err != api.OK || !equal(product(back, some), identity(s.Data)) {
				t.Errorf("P5.2: %v: rows %v: inverse %v, error %d", s, rows, back, err)
			}
		}
	}
}

// P5.2, T1: of what any Data rows tell about data, the data come back.
func TestDataBack(t *testing.T) {
	data := of([]int{0, 255, 1, 77}, []int{128, 3, 0, 255}, []int{9, 9, 254, 0}, []int{255, 0, 29, 1})
	for _, s := range shapes() {
		first := of(data.Rows[:s.Data]...)
		all := product(ask(t, s), first)
		for _, rows := range choices(s.Data+s.Parity, s.Data) {
			picked, _ := matrix.Pick(ask(t, s), rows)
			back, _ := invert.Invert(picked)
			left, _ := matrix.Pick(all, rows)
			if got, err := matrix.Mul(back, left); !equal(got, first) || err != api.OK {
				t.Errorf("P5.2: %v: of rows %v: %v, error %d", s, rows, got, err)
			}
		}
	}
}

// P5.1: no row of parity hangs on how many there are.
func TestParityStays(t *testing.T) {
	for _, s := range shapes() {
		more := ask(t, shape(s.Data, 2))
		wantMatrix(t, "P5.1: fewer rows", s, of(more.Rows[:s.Data+s.Parity]...))
	}
}

// spoil writes over each number of m, over the spare room behind its rows, and over its list of rows.
func spoil(m api.Matrix) {
	rows := m.Rows[:cap(m.Rows)]
	for i, row := range rows {
		for j := range row[:cap(row)] {
			row[:cap(row)][j] = -1000
		}
		rows[i] = nil
	}
}

// R4: no two rows of one answer share memory.
func TestRowsAreApart(t *testing.T) {
	for _, s := range shapes() {
		m := ask(t, s)
		for row := range m.Rows {
			others := clone(m)
			spoil(of(m.Rows[row]))
			others.Rows[row] = m.Rows[row]
			if !equal(m, others) {
				t.Errorf("R4: %v: row %d shares memory with another", s, row)
			}
		}
	}
}

// R4, R5: the same shape, asked again behind an answer that was written over, has the same answer as it had.
func TestAskedAgain(t *testing.T) {
	for _, s := range shapes() {
		for range 4 {
			m := ask(t, s)
			if !equal(m, known()[s]) {
				t.Fatalf("R5: Matrix(%v), asked again: %v; want %v", s, m, known()[s])
			}
			spoil(m)
		}
	}
}

// R4: an answer stays as it is, whatever is written over one that came ahead of it or behind it.
func TestAnswersStay(t *testing.T) {
	for _, s := range shapes() {
		for _, other := range shapes() {
			ahead := ask(t, other)
			m := ask(t, s)
			behind := ask(t, other)
			spoil(ahead)
			spoil(behind)
			if !equal(m, known()[s]) {
				t.Fatalf("R4: Matrix(%v) shares memory with Matrix(%v), now %v", s, other, m)
			}
		}
	}
}

// R5: what a shape's answer is does not hang on which shapes, and which errors, were asked for ahead of it.
func TestAnswersDoNotHangTogether(t *testing.T) {
	for _, s := range shapes() {
		for _, other := range slices.Concat(shapes(), wrongShapes()) {
			m, _ := Matrix(other)
			spoil(m)
			wantMatrix(t, "R5", s, known()[s])
			if !May(other) {
				wantFormError(t, "R5", other)
			}
		}
	}
}

// R5: the same from several goroutines at one time; each writes over its answers.
func TestAtOneTime(t *testing.T) {
	for range 20 {
		var all sync.WaitGroup
		for range 8 {
			all.Go(func() {
				for s, want := range known() {
					m, err := Matrix(s)
					if !equal(m, want) || err != api.OK || !May(s) {
						t.Errorf("R5: Matrix(%v): %v, error %d", s, m, err)
					}
					spoil(m)
				}
			})
		}
		all.Wait()
	}
}
