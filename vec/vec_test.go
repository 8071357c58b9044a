package vec

import (
	"math"
	"slices"
	"strings"
	"sync"
	"testing"

	"ossuary/api"
)

func wantRow(t *testing.T, about string, cs []int, rows []string, want string) {
	t.Helper()
	got, err := Combine(cs, rows)
	if got != want || err != api.OK {
		t.Fatalf("P2.1: %s: Combine(%v, %.40q): %.40q, error %d; want %.40q", about, cs, rows, got, err, want)
	}
}

func wantFormError(t *testing.T, about string, cs []int, rows []string) {
	t.Helper()
	got, err := Combine(cs, rows)
	if got != "" || err != api.ErrVecForm {
		t.Errorf("P2.1: %s: %.40q, error %d; want an empty text, error %d", about, got, err, api.ErrVecForm)
	}
}

// times multiplies by doubling alone, apart from the program's field.
func times(a, b int) int {
	x := 0
	for ; b > 0; b /= 2 {
		if b%2 == 1 {
			x ^= a
		}
		a *= 2
		if a > 255 {
			a ^= 285
		}
	}
	return x
}

// numbersAndRows makes count of both, rows of length bytes, all of them unlike from seed to seed.
func numbersAndRows(seed, count, length int) (cs []int, rows []string) {
	x := uint32(seed)*2654435761 + 1
	next := func() int {
		x = x*1664525 + 1013904223
		return int(x >> 24)
	}
	for range count {
		cs = append(cs, next())
		row := make([]byte, length)
		for i := range row {
			row[i] = byte(next())
		}
		rows = append(rows, string(row))
	}
	return cs, rows
}

// expected adds up place by place, not row by row as the program does.
func expected(cs []int, rows []string) string {
	sums := make([]byte, len(rows[0]))
	for place := range sums {
		for i, c := range cs {
			sums[place] ^= byte(times(c, int(rows[i][place])))
		}
	}
	return string(sums)
}

// allBytes is the bytes from 0 to 255, rising.
func allBytes() string {
	b := make([]byte, 256)
	for i := range b {
		b[i] = byte(i)
	}
	return string(b)
}

// equalNumbers is count times c; equalRows is count times row.
func equalNumbers(c, count int) []int          { return slices.Repeat([]int{c}, count) }
func equalRows(row string, count int) []string { return slices.Repeat([]string{row}, count) }

// P2.1: sums that are told by hand.
func TestKnownSums(t *testing.T) {
	for _, r := range []struct {
		about string
		cs    []int
		rows  []string
		want  string
	}{
		{"one row, once", []int{1}, []string{"ossuary"}, "ossuary"},
		{"one row, not at all", []int{0}, []string{"ossuary"}, "\x00\x00\x00\x00\x00\x00\x00"},
		{"one row, twice", []int{2}, []string{"\x00\x01\x40\x80\xff"}, "\x00\x02\x80\x1d\xe3"},
		{"one row, 255 times", []int{255}, []string{"\x00\x01\xff"}, "\x00\xff\xe2"},
		{"two rows", []int{1, 1}, []string{"\x0f\xff\x01", "\xf0\xff\x02"}, "\xff\x00\x03"},
		{"two rows, one of them not at all", []int{0, 1}, []string{"abc", "xyz"}, "xyz"},
		{"two rows, the other not at all", []int{1, 0}, []string{"abc", "xyz"}, "abc"},
		{"each row its own number", []int{2, 3}, []string{"\x80\x01", "\x03\x00"}, "\x18\x02"},
		{"the numbers turned round", []int{3, 2}, []string{"\x80\x01", "\x03\x00"}, "\x9b\x03"},
		{"three rows that cancel out", []int{3, 2, 1}, []string{"abc", "abc", "abc"}, "\x00\x00\x00"},
	} {
		wantRow(t, r.about, r.cs, r.rows, r.want)
	}
}

// P2.1: each number of the field with each byte.
func TestAllNumbersAndBytes(t *testing.T) {
	row := allBytes()
	for c := range 256 {
		wantRow(t, "all bytes", []int{c}, []string{row}, expected([]int{c}, []string{row}))
	}
}

// P2.1: any count of rows, each length, numbers and bytes of all kinds.
func TestManyRows(t *testing.T) {
	for count := 1; count <= api.MaxRows; count++ {
		for length := range 40 {
			cs, rows := numbersAndRows(count*40+length, count, length)
			wantRow(t, "many rows", cs, rows, expected(cs, rows))
		}
	}
}

// P2.1, T1: a sum of rows is the same in whichever row they come.
func TestRowsTurnedRound(t *testing.T) {
	cs, rows := numbersAndRows(7, api.MaxRows, 30)
	want := expected(cs, rows)
	slices.Reverse(cs)
	slices.Reverse(rows)
	wantRow(t, "turned round", cs, rows, want)
}

// P2.1: rows of no bytes, few and many of them.
func TestRowsOfNoBytes(t *testing.T) {
	for count := 1; count <= api.MaxRows; count++ {
		for _, c := range []int{0, 1, 255} {
			wantRow(t, "no bytes", equalNumbers(c, count), make([]string, count), "")
		}
	}
}

// P2.1: rows of MaxText bytes, few and many of them.
func TestRowsOfMostBytes(t *testing.T) {
	for _, count := range []int{1, 2, api.MaxRows} {
		for _, length := range []int{api.MaxText - 1, api.MaxText} {
			cs, rows := numbersAndRows(count, count, length)
			wantRow(t, "most bytes", cs, rows, expected(cs, rows))
		}
	}
}

// P2.1: no numbers, or too many; nil and an empty list are one.
func TestWrongCountOfNumbers(t *testing.T) {
	wantFormError(t, "nil and nil", nil, nil)
	wantFormError(t, "empty and empty", []int{}, []string{})
	wantFormError(t, "no numbers, one row", nil, []string{"a"})
	wantFormError(t, "no numbers, a row of no bytes", nil, []string{""})
	for _, count := range []int{api.MaxRows + 1, api.MaxRows + 2, 256, 5000} {
		wantFormError(t, "too many of both", equalNumbers(1, count), equalRows("a", count))
		wantFormError(t, "too many of both, no bytes", equalNumbers(0, count), equalRows("", count))
	}
}

// P2.1: another count of rows than of numbers.
func TestUnlikeCounts(t *testing.T) {
	for count := 1; count <= api.MaxRows; count++ {
		for _, row := range []string{"", "a"} {
			wantFormError(t, "no rows", equalNumbers(1, count), nil)
			wantFormError(t, "a row too few", equalNumbers(1, count), equalRows(row, count-1))
			wantFormError(t, "a row too many", equalNumbers(1, count), equalRows(row, count+1))
		}
	}
}

// P2.1: a number that is not in the field, in each place, also where no byte is multiplied by it.
func TestNumbersOutside(t *testing.T) {
	outside := []int{-1, -255, -256, 256, 257, 285, 1 << 32, math.MinInt, math.MaxInt}
	for count := 1; count <= api.MaxRows; count++ {
		for place := range count {
			for _, x := range outside {
				cs := equalNumbers(1, count)
				cs[place] = x
				wantFormError(t, "a number outside", cs, equalRows("ab", count))
				wantFormError(t, "a number outside, zeros", cs, equalRows("\x00", count))
				wantFormError(t, "a number outside, no bytes", cs, equalRows("", count))
			}
		}
	}
}

// P2.1: a row that is shorter or longer than the others, in each place.
func TestUnlikeLengths(t *testing.T) {
	for count := 2; count <= api.MaxRows; count++ {
		for place := range count {
			for _, row := range []string{"", "a", "abc", strings.Repeat("a", api.MaxText+1)} {
				rows := equalRows("ab", count)
				rows[place] = row
				wantFormError(t, "unlike lengths", equalNumbers(1, count), rows)
				wantFormError(t, "unlike lengths, not at all", equalNumbers(0, count), rows)
			}
		}
	}
}

// P2.1: rows that are longer than MaxText.
func TestRowsTooLong(t *testing.T) {
	for _, length := range []int{api.MaxText + 1, 2 * api.MaxText, 1 << 20} {
		row := strings.Repeat("a", length)
		for _, count := range []int{1, 2, api.MaxRows} {
			wantFormError(t, "too long", equalNumbers(1, count), equalRows(row, count))
			wantFormError(t, "too long, not at all", equalNumbers(0, count), equalRows(row, count))
		}
	}
}

// R4: the lists that are handed in stay as they are, and their spare room too.
func TestArgumentsStay(t *testing.T) {
	cs := []int{3, 2, 77, 78}
	rows := []string{"abc", "xyz", "spare", "room"}
	for range 2 {
		wantRow(t, "with spare room", cs[:2], rows[:2], expected(cs[:2], rows[:2]))
		wantFormError(t, "with spare room", cs[:1], rows[:2])
	}
	if !slices.Equal(cs, []int{3, 2, 77, 78}) || !slices.Equal(rows, []string{"abc", "xyz", "spare", "room"}) {
		t.Errorf("R4: now %v, %q", cs, rows)
	}
}

// R5: the same from several goroutines at one time.
func TestAtOneTime(t *testing.T) {
	cs, rows := numbersAndRows(5, api.MaxRows, 200)
	want := expected(cs, rows)
	var all sync.WaitGroup
	for range 8 {
		all.Go(func() {
			for range 20 {
				if got, err := Combine(cs, rows); got != want || err != api.OK {
					t.Errorf("R5: %.40q, error %d", got, err)
				}
			}
		})
	}
	all.Wait()
}
