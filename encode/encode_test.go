package encode

import (
	"math"
	"slices"
	"strings"
	"sync"
	"testing"

	"ossuary/api"
	"ossuary/gen"
	"ossuary/vec"
)

func shape(data, parity int) api.Shape { return api.Shape{Data: data, Parity: parity} }

// shapes tells all that may be.
func shapes() (all []api.Shape) {
	for data := 1; data <= 4; data++ {
		for parity := 0; parity <= 2; parity++ {
			all = append(all, shape(data, parity))
		}
	}
	return all
}

// wrongShapes tells shapes of which Data, Parity or both may not be.
func wrongShapes() (all []api.Shape) {
	outsideData := []int{0, -1, -2, -4, 5, 6, 12, 256, 1<<32 + 1, math.MinInt, math.MinInt + 1, math.MaxInt}
	outsideParity := []int{-1, -2, 3, 4, 256, 1 << 32, math.MinInt, math.MinInt + 1, math.MaxInt}
	for _, data := range slices.Concat([]int{1, 2, 3, 4}, outsideData) {
		for _, parity := range outsideParity {
			all = append(all, shape(data, parity))
		}
	}
	for _, data := range outsideData {
		for parity := range 3 {
			all = append(all, shape(data, parity))
		}
	}
	return all
}

// parityRows tells the rows of the matrix behind those of the data, by Data, written out.
func parityRows(data int) [][]int {
	return [][][]int{
		nil,
		{{1}, {1}},
		{{3, 2}, {2, 3}},
		{{1, 1, 1}, {15, 8, 6}},
		{{27, 28, 18, 20}, {28, 27, 20, 18}},
	}[data]
}

// times multiplies by doubling alone, apart from the program's field.
func times(a, b int) int {
	x := 0
	for ; b > 0; b /= 2 {
		if b%2 == 1 {
			x ^= a
		}
		a *= 2
		if a > 255 {
			a ^= 285
		}
	}
	return x
}

// expected works the parity out apart from the program's layers.
func expected(s api.Shape, data []string) []string {
	var out []string
	for _, row := range parityRows(s.Data)[:s.Parity] {
		sums := make([]byte, len(data[0]))
		for place := range sums {
			for i, c := range row {
				sums[place] ^= byte(times(c, int(data[i][place])))
			}
		}
		out = append(out, string(sums))
	}
	return out
}

// texts makes count of them, of length bytes each, unlike from seed to seed.
func texts(seed, count, length int) (all []string) {
	x := uint32(seed)*2654435761 + 1
	for range count {
		b := make([]byte, length)
		for i := range b {
			x = x*1664525 + 1013904223
			b[i] = byte(x >> 24)
		}
		all = append(all, string(b))
	}
	return all
}

func alike(text string, count int) []string { return slices.Repeat([]string{text}, count) }

func wantParity(t *testing.T, about string, s api.Shape, data, want []string) {
	t.Helper()
	got, err := Encode(s, data)
	if !slices.Equal(got, want) || err != api.OK {
		t.Fatalf("%s: Encode(%v, %.80q): %.80q, error %d; want %.80q", about, s, data, got, err, want)
	}
}

func wantFormError(t *testing.T, about string, s api.Shape, data []string) {
	t.Helper()
	got, err := Encode(s, data)
	if got != nil || err != api.ErrEncodeForm {
		t.Errorf("%s: Encode(%v, %d texts): %.80q, error %d; want none, error %d", about, s, len(data), got, err, api.ErrEncodeForm)
	}
}

// P6.1: the limits are those of the document.
func TestLimits(t *testing.T) {
	if api.MaxData != 4 || api.MaxParity != 2 || api.MaxText != 4096 || api.ErrEncodeForm != 600 {
		t.Errorf("MaxData %d, MaxParity %d, MaxText %d, ErrEncodeForm %d", api.MaxData, api.MaxParity, api.MaxText, api.ErrEncodeForm)
	}
}

// P6.1: parity of each Data, written out: bytes 0 and 255 among the data.
func TestKnownBytes(t *testing.T) {
	data := []string{"\x00\xff\x01\x80", "\xff\x00\x02\x40", "\xff\xff\x04\x20", "\x00\x00\x08\x10"}
	for count, want := range map[int][]string{
		1: {"\x00\xff\x01\x80", "\x00\xff\x01\x80"},
		2: {"\xe3\x1c\x07\x1d", "\x1c\xe3\x04\xdd"},
		3: {"\x00\x00\x07\xe0", "\x93\x54\x07\x29"},
		4: {"\x93\x54\xcb\x75", "\x6c\xab\xea\xaf"},
	} {
		for parity := range 3 {
			wantParity(t, "P6.1: written out", shape(count, parity), data[:count], want[:parity])
		}
	}
}

// P6.1: parity of words, written out.
func TestKnownWords(t *testing.T) {
	data := []string{"bone", "dust", "tomb", "crow"}
	for count, want := range map[int][]string{
		1: {"bone", "bone"},
		2: {"n[TG", "hAIV"},
		3: {"rups", "&\xbf\x8c\xff"},
		4: {"o\xd3\x1d\xaf", "\x0f\xdbB\xa6"},
	} {
		for parity := range 3 {
			wantParity(t, "P6.1: written out", shape(count, parity), data[:count], want[:parity])
		}
	}
}

// P6.1: where Parity is 0 there is no text, whatever the data.
func TestNoParity(t *testing.T) {
	for data := 1; data <= 4; data++ {
		for _, length := range []int{0, 1, 32, api.MaxText} {
			wantParity(t, "P6.1: no parity", shape(data, 0), texts(data, data, length), nil)
		}
	}
}

// P6.1: texts of no bytes: as many of parity as the shape has, each of no bytes.
func TestTextsOfNoBytes(t *testing.T) {
	for _, s := range shapes() {
		wantParity(t, "P6.1: no bytes", s, make([]string, s.Data), make([]string, s.Parity))
	}
}

// P6.1: texts of one byte, each byte in each place, the others 0 or 255.
func TestTextsOfOneByte(t *testing.T) {
	for _, s := range shapes() {
		for place := range s.Data {
			for _, other := range []string{"\x00", "\xff"} {
				for b := range 256 {
					data := alike(other, s.Data)
					data[place] = string([]byte{byte(b)})
					wantParity(t, "P6.1: one byte", s, data, expected(s, data))
				}
			}
		}
	}
}

// P6.1: data that are alike have parity that is like them, bytes 0 and 255 among them.
func TestDataAlike(t *testing.T) {
	for _, s := range shapes() {
		for _, text := range []string{"\x00", "\xff", "\x00\xff\x80\x01", strings.Repeat("\x00", 40), strings.Repeat("\xff", 40)} {
			wantParity(t, "P6.1: alike", s, alike(text, s.Data), alike(text, s.Parity))
		}
	}
}

// P6.1: one text that is not 0 tells the matrix's column.
func TestColumns(t *testing.T) {
	for _, s := range shapes() {
		for column := range s.Data {
			data := alike("\x00\x00", s.Data)
			data[column] = "\x01\x00"
			var want []string
			for _, row := range parityRows(s.Data)[:s.Parity] {
				want = append(want, string([]byte{byte(row[column]), 0}))
			}
			wantParity(t, "P6.1: a column", s, data, want)
		}
	}
}

// P6.1: each length up to some, bytes of all kinds.
func TestManyTexts(t *testing.T) {
	for _, s := range shapes() {
		for length := range 80 {
			data := texts(length*4+s.Parity, s.Data, length)
			wantParity(t, "P6.1: many", s, data, expected(s, data))
		}
	}
}

// P6.1: texts of MaxText bytes, and of nearly so many.
func TestTextsOfMostBytes(t *testing.T) {
	for _, s := range shapes() {
		for _, length := range []int{api.MaxText - 1, api.MaxText} {
			data := texts(length, s.Data, length)
			wantParity(t, "P6.1: most bytes", s, data, expected(s, data))
		}
	}
}

// P6.1: it is what layer 2 combines of layer 5's further rows.
func TestByLayers(t *testing.T) {
	for _, s := range shapes() {
		data := texts(9, s.Data, 50)
		code, _ := gen.Matrix(s)
		var want []string
		for _, row := range code.Rows[s.Data:] {
			text, _ := vec.Combine(row, data)
			want = append(want, text)
		}
		wantParity(t, "P6.1: by layers", s, data, want)
	}
}

// P6.1: no text of parity hangs on how many there are.
func TestParityStays(t *testing.T) {
	for data := 1; data <= 4; data++ {
		given := texts(data, data, 20)
		both, _ := Encode(shape(data, 2), given)
		if len(both) != 2 {
			t.Fatalf("P6.1: %d of data: %q", data, both)
		}
		wantParity(t, "P6.1: fewer", shape(data, 1), given, both[:1])
	}
}

// P6.1: which text is which tells: data turned round have other parity.
func TestDataTurnedRound(t *testing.T) {
	for _, s := range shapes() {
		data := texts(3, s.Data, 20)
		slices.Reverse(data)
		wantParity(t, "P6.1: turned round", s, data, expected(s, data))
	}
}

// P6.1: a shape that may not be, with as many texts as its Data if there can be so many, and with other counts.
func TestWrongShape(t *testing.T) {
	for _, s := range wrongShapes() {
		for count := range 8 {
			wantFormError(t, "P6.1: a wrong shape", s, alike("ab", count))
			wantFormError(t, "P6.1: a wrong shape, no bytes", s, alike("", count))
		}
		if 0 <= s.Data && s.Data <= 256 {
			wantFormError(t, "P6.1: a wrong shape", s, alike("ab", s.Data))
		}
	}
	wantFormError(t, "P6.1: no shape", api.Shape{}, nil)
}

// P6.1: fewer texts than Data, more, none at all: nil and an empty list are one.
func TestWrongCount(t *testing.T) {
	for _, s := range shapes() {
		wantFormError(t, "P6.1: nil", s, nil)
		wantFormError(t, "P6.1: empty", s, []string{})
		for _, count := range []int{0, 1, 2, 3, 4, 5, 6, 12, 13, 5000} {
			if count != s.Data {
				wantFormError(t, "P6.1: a wrong count", s, alike("ab", count))
				wantFormError(t, "P6.1: a wrong count, no bytes", s, alike("", count))
			}
		}
	}
}

// P6.1: a text that is shorter or longer than the others, in each place: the first, the last, one in between.
func TestUnlikeLengths(t *testing.T) {
	for _, s := range shapes() {
		for place := range s.Data {
			for _, text := range []string{"", "a", "abc", strings.Repeat("a", api.MaxText), strings.Repeat("a", api.MaxText+1)} {
				data := alike("ab", s.Data)
				data[place] = text
				if s.Data > 1 {
					wantFormError(t, "P6.1: unlike lengths", s, data)
				}
			}
		}
	}
}

// P6.1: lengths that are all unlike, or add up to the same, or rise and fall.
func TestAllLengthsUnlike(t *testing.T) {
	for parity := range 3 {
		for _, data := range [][]string{
			{"", "a"}, {"a", ""}, {"a", "bc"}, {"ab", "c"},
			{"", "a", "bc"}, {"ab", "c", "def"}, {"ab", "c", "de"}, {"ab", "", "cdef"}, {"a", "b", ""}, {"", "a", "b"},
			{"", "a", "bc", "def"}, {"ab", "c", "d", "ef"}, {"ab", "cd", "e", "fgh"}, {"a", "b", "cd", "ef"}, {"", "a", "", "b"},
		} {
			wantFormError(t, "P6.1: unlike lengths", shape(len(data), parity), data)
		}
	}
}

// P6.1: texts longer than MaxText, all of them or one.
func TestTextsTooLong(t *testing.T) {
	for _, s := range shapes() {
		for _, length := range []int{api.MaxText + 1, 2 * api.MaxText, 1 << 20} {
			long := strings.Repeat("a", length)
			wantFormError(t, "P6.1: too long", s, alike(long, s.Data))
			for place := range s.Data {
				data := alike(long[:api.MaxText], s.Data)
				data[place] = long
				wantFormError(t, "P6.1: one too long", s, data)
			}
		}
	}
}

// P6.1, R6: several faults at once: there is but one error.
func TestSeveralFaults(t *testing.T) {
	long := strings.Repeat("a", api.MaxText+1)
	for _, s := range slices.Concat(shapes(), wrongShapes()) {
		for _, data := range [][]string{
			{long, "", "a", "b", "c", "d", "e"}, {"", long, "a", "b", "c"}, slices.Repeat([]string{long, "a"}, 50),
		} {
			wantFormError(t, "P6.1: several faults", s, data)
		}
	}
	for _, s := range wrongShapes() {
		wantFormError(t, "P6.1: several faults", s, []string{long})
		wantFormError(t, "P6.1: several faults", s, []string{"a", long})
		wantFormError(t, "P6.1: several faults", s, []string{"a", "bc", "", "d"})
	}
}

// R4: the list that is handed in stays as it is, its spare room too.
func TestArgumentsStay(t *testing.T) {
	spare := []string{"one", "two", "six", "ten", "spare", "room"}
	before := slices.Clone(spare)
	for _, s := range shapes() {
		wantParity(t, "R4: with spare room", s, spare[:s.Data], expected(s, before[:s.Data]))
		wantFormError(t, "R4: with spare room", s, spare[:s.Data+1])
		if s.Data > 1 {
			wantFormError(t, "R4: with spare room", s, spare[5-s.Data:5])
		}
	}
	for _, s := range wrongShapes() {
		wantFormError(t, "R4: with spare room", s, spare[:3])
	}
	if !slices.Equal(spare, before) {
		t.Errorf("R4: now %q", spare)
	}
}

// spoil writes over a list and the spare room behind it.
func spoil(list []string) {
	list = list[:cap(list)]
	for i := range list {
		list[i] = "spoiled"
	}
}

// R4: neither is the list that is handed in kept, nor does an answer share memory with it.
func TestArgumentsAreNotKept(t *testing.T) {
	for _, s := range shapes() {
		data := texts(1, s.Data, 10)
		want := expected(s, data)
		given := slices.Concat(data, []string{"spare", "room"})[:s.Data]
		got, _ := Encode(s, given)
		spoil(given)
		if !slices.Equal(got, want) {
			t.Errorf("R4: %v: the answer is now %q; want %q", s, got, want)
		}
		wantParity(t, "R4: asked anew", s, data, want)
	}
}

// R4: what is written over an answer is seen neither in the data nor in another answer.
func TestAnswersAreApart(t *testing.T) {
	for _, s := range shapes() {
		data := texts(2, s.Data, 10)
		before := slices.Clone(data)
		want := expected(s, data)
		first, _ := Encode(s, data)
		second, _ := Encode(s, data)
		spoil(first)
		if !slices.Equal(second, want) || !slices.Equal(data, before) {
			t.Errorf("R4: %v: now %q and %q; want %q and %q", s, second, data, want, before)
		}
		wantParity(t, "R4: asked again", s, data, want)
	}
}

// R5: an answer hangs on its arguments alone, not on what was asked ahead of it, an error among that.
func TestAskedAgain(t *testing.T) {
	for _, s := range shapes() {
		data := texts(4, s.Data, 12)
		for _, other := range slices.Concat(shapes(), wrongShapes()) {
			if gen.May(other) {
				more := texts(5, other.Data, 7)
				wantParity(t, "R5", other, more, expected(other, more))
			} else {
				wantFormError(t, "R5", other, data)
			}
			wantParity(t, "R5", s, data, expected(s, data))
		}
	}
}

// R5: the same from several goroutines at one time, of one list.
func TestAtOneTime(t *testing.T) {
	data := texts(6, 4, 64)
	var all sync.WaitGroup
	for range 8 {
		all.Go(func() {
			for _, s := range shapes() {
				want := expected(s, data[:s.Data])
				got, err := Encode(s, data[:s.Data])
				if !slices.Equal(got, want) || err != api.OK {
					t.Errorf("R5: Encode(%v): %q, error %d", s, got, err)
				}
				spoil(got)
			}
		})
	}
	all.Wait()
}
