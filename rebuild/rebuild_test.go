package rebuild

import (
	"math"
	"slices"
	"strings"
	"sync"
	"testing"

	"ossuary/api"
	"ossuary/decode"
	"ossuary/encode"
	"ossuary/gen"
)

func shape(data, parity int) api.Shape { return api.Shape{Data: data, Parity: parity} }

// shapes tells all that may be.
func shapes() (all []api.Shape) {
	for data := 1; data <= 4; data++ {
		for parity := 0; parity <= 2; parity++ {
			all = append(all, shape(data, parity))
		}
	}
	return all
}

// wrongShapes tells shapes of which Data, Parity or both may not be.
func wrongShapes() (all []api.Shape) {
	outsideData := []int{0, -1, -2, -4, 5, 6, 12, 256, 1<<32 + 1, math.MinInt, math.MinInt + 1, math.MaxInt}
	outsideParity := []int{-1, -2, 3, 4, 256, 1 << 32, math.MinInt, math.MinInt + 1, math.MaxInt}
	for _, data := range slices.Concat([]int{1, 2, 3, 4}, outsideData) {
		for _, parity := range outsideParity {
			all = append(all, shape(data, parity))
		}
	}
	for _, data := range outsideData {
		for parity := range 3 {
			all = append(all, shape(data, parity))
		}
	}
	return all
}

// choices tells each have of count shards.
func choices(count int) (all [][]bool) {
	for mask := range 1 << count {
		have := make([]bool, count)
		for i := range have {
			have[i] = mask>>i&1 == 1
		}
		all = append(all, have)
	}
	return all
}

func every(count int) []bool { return slices.Repeat([]bool{true}, count) }

// numbersOf tells which shards one has.
func numbersOf(have []bool) (numbers []int) {
	for i, has := range have {
		if has {
			numbers = append(numbers, i)
		}
	}
	return numbers
}

// parityRows tells the rows of the matrix behind those of the data, by Data, written out.
func parityRows(data int) [][]int {
	return [][][]int{
		nil,
		{{1}, {1}},
		{{3, 2}, {2, 3}},
		{{1, 1, 1}, {15, 8, 6}},
		{{27, 28, 18, 20}, {28, 27, 20, 18}},
	}[data]
}

// times multiplies by doubling alone, apart from the program's field.
func times(a, b int) int {
	x := 0
	for ; b > 0; b /= 2 {
		if b%2 == 1 {
			x ^= a
		}
		a *= 2
		if a > 255 {
			a ^= 285
		}
	}
	return x
}

// shardsOf works the shards of data out apart from the program's layers: the data, and the parity behind them.
func shardsOf(s api.Shape, data []string) []string {
	out := slices.Clone(data)
	for _, row := range parityRows(s.Data)[:s.Parity] {
		sums := make([]byte, len(data[0]))
		for place := range sums {
			for i, c := range row {
				sums[place] ^= byte(times(c, int(data[i][place])))
			}
		}
		out = append(out, string(sums))
	}
	return out
}

// texts makes count of them, of length bytes each, unlike from seed to seed.
func texts(seed, count, length int) (all []string) {
	x := uint32(seed)*2654435761 + 1
	for range count {
		b := make([]byte, length)
		for i := range b {
			x = x*1664525 + 1013904223
			b[i] = byte(x >> 24)
		}
		all = append(all, string(b))
	}
	return all
}

func alike(text string, count int) []string { return slices.Repeat([]string{text}, count) }

// without puts other in the place of each shard that one doesn't have.
func without(shards []string, have []bool, other string) []string {
	out := slices.Clone(shards)
	for i, has := range have {
		if !has {
			out[i] = other
		}
	}
	return out
}

func wantShards(t *testing.T, about string, s api.Shape, shards []string, have []bool, want []string) {
	t.Helper()
	got, err := Rebuild(s, shards, have)
	if !slices.Equal(got, want) || err != api.OK {
		t.Fatalf("%s: Rebuild(%v, %.80q, %v): %.80q, error %d; want %.80q", about, s, shards, have, got, err, want)
	}
}

func wantError(t *testing.T, about string, s api.Shape, shards []string, have []bool, want api.Errno) {
	t.Helper()
	got, err := Rebuild(s, shards, have)
	if got != nil || err != want {
		t.Errorf("%s: Rebuild(%v, %d shards, %d have): %.80q, error %d; want none, error %d", about, s, len(shards), len(have), got, err, want)
	}
}

func wantForm(t *testing.T, about string, s api.Shape, shards []string, have []bool) {
	t.Helper()
	wantError(t, about, s, shards, have, api.ErrRebuildForm)
}

func wantFew(t *testing.T, about string, s api.Shape, shards []string, have []bool) {
	t.Helper()
	wantError(t, about, s, shards, have, api.ErrRebuildFew)
}

// wantShardsOrFew: all shards, if one has enough.
func wantShardsOrFew(t *testing.T, about string, s api.Shape, shards []string, have []bool, want []string) {
	t.Helper()
	if len(numbersOf(have)) < s.Data {
		wantFew(t, about, s, shards, have)
		return
	}
	wantShards(t, about, s, shards, have, want)
}

// wantFirstKept: the answer is all shards of some data, the first Data that one has among them; of no other data they are (T1).
func wantFirstKept(t *testing.T, about string, s api.Shape, shards []string, have []bool) {
	t.Helper()
	got, err := Rebuild(s, shards, have)
	if len(got) != s.Data+s.Parity || err != api.OK || !slices.Equal(got, shardsOf(s, got[:s.Data])) {
		t.Fatalf("%s: Rebuild(%v, %.80q, %v): %.80q, error %d", about, s, shards, have, got, err)
	}
	for _, number := range numbersOf(have)[:s.Data] {
		if got[number] != shards[number] {
			t.Fatalf("%s: Rebuild(%v, %.80q, %v): %.80q, in which shard %d is not kept", about, s, shards, have, got, number)
		}
	}
}

// P8.1: the limits are those of the document.
func TestLimits(t *testing.T) {
	if api.MaxData != 4 || api.MaxParity != 2 || api.MaxText != 4096 || api.ErrRebuildForm != 800 || api.ErrRebuildFew != 801 {
		t.Errorf("MaxData %d, MaxParity %d, MaxText %d, errors %d, %d", api.MaxData, api.MaxParity, api.MaxText, api.ErrRebuildForm, api.ErrRebuildFew)
	}
}

// known is a row of TestKnown: in have, x is a shard that one has.
type known struct {
	data   int
	shards []string
	have   string
	want   []string
}

// P8.1: shards written out, found by trying all bytes; where one has more than Data shards, no data have them all.
func TestKnown(t *testing.T) {
	const ends, turned = "\x00\xff\x80\x01", "\xff\x00\x7f\xfe"
	for _, row := range []known{
		{1, []string{"bone"}, "x", []string{"bone"}},
		{1, []string{"", ends}, ".x", []string{ends, ends}},
		{1, []string{"", "", ends}, "..x", []string{ends, ends, ends}},
		{1, []string{"", "bone", "dust"}, ".xx", []string{"bone", "bone", "bone"}},
		{1, []string{"bone", "dust", "tomb"}, "xxx", []string{"bone", "bone", "bone"}},
		{2, []string{"bone", "dust"}, "xx", []string{"bone", "dust"}},
		{2, []string{"", "bone", "dust"}, ".xx", []string{"\x60\x92\x65\x6a", "bone", "dust"}},
		{2, []string{"bone", "", ends}, "x.x", []string{"bone", "\x53\x27\x19\x57", ends}},
		{2, []string{"bone", "dust", ends}, "xxx", []string{"bone", "dust", "n[TG"}},
		{2, []string{"", "", "bone", "dust"}, "..xx", []string{"n[TG", "hAIV", "bone", "dust"}},
		{2, []string{"", "bone", "dust", "tomb"}, ".xxx", []string{"\x60\x92\x65\x6a", "bone", "dust", "\x66\x88\x78\x7b"}},
		{2, []string{"bone", "", "", ends}, "x..x", []string{"bone", "\xb7\x1f\x34\xb2", "\xd5\x8f\xda\xd6", ends}},
		{2, []string{"bone", "dust", "", ""}, "xx..", []string{"bone", "dust", "n[TG", "hAIV"}},
		{2, []string{"bone", "dust", ends, turned}, "xxxx", []string{"bone", "dust", "n[TG", "hAIV"}},
		{3, []string{"bone", "dust", "tomb"}, "xxx", []string{"bone", "dust", "tomb"}},
		{3, []string{"bone", "", "tomb", ends}, "x.xx", []string{"bone", "\x16\xff\x83\x06", "tomb", ends}},
		{3, []string{"", "", "bone", "dust", "tomb"}, "..xxx", []string{"\x07\xfe\x24\x82", "\x01\xe4\x39\x93", "bone", "dust", "tomb"}},
		{3, []string{"", "bone", "", "dust", "tomb"}, ".x.xx", []string{"\x45\x0c\xb5\x26", "bone", "\x43\x16\xa8\x37", "dust", "tomb"}},
		{3, []string{"bone", "", "", "\x00\x00\x00\x00", turned}, "x..xx", []string{"bone", "\xa6\xd6\x0d\x71", "\xc4\xb9\x63\x14", "\x00\x00\x00\x00", turned}},
		{3, []string{"bone", "", "dust", "tomb", ends}, "x.xxx", []string{"bone", "rups", "dust", "tomb", "\xf6\xe3\xd0\xb3"}},
		{3, []string{"bone", "dust", "tomb", ends, turned}, "xxxxx", []string{"bone", "dust", "tomb", "rups", "\x26\xbf\x8c\xff"}},
		{4, []string{"bone", "dust", "tomb", "crow"}, "xxxx", []string{"bone", "dust", "tomb", "crow"}},
		{4, []string{"bone", "dust", "tomb", "", ends}, "xxx.x", []string{"bone", "dust", "tomb", "\x59\xd7\x84\x56", ends}},
		{4, []string{"bone", "dust", "tomb", "crow", ""}, "xxxx.", []string{"bone", "dust", "tomb", "crow", "\x6f\xd3\x1d\xaf"}},
		{4, []string{"", "", "bone", "dust", "tomb", "crow"}, "..xxxx", []string{"\x74\xfa\x5f\xed", "\xa7\xe1\x95\x2e", "bone", "dust", "tomb", "crow"}},
		{4, []string{"", "bone", "", "dust", ends, turned}, ".x.xxx", []string{"HZQ.", "bone", "\x12\x63\x6c\x09", "dust", ends, turned}},
		{4, []string{"bone", "dust", "tomb", "", "", ends}, "xxx..x", []string{"bone", "dust", "tomb", "\x57\x70\x2c\xbc", "\xd8\xfb\x48\x88", ends}},
		{4, []string{"bone", "", "dust", "tomb", "crow", ends}, "x.xxxx", []string{"bone", "\x64\xd9\xeb\x78", "dust", "tomb", "crow", "\x11\x0b\x97\x50"}},
		{4, []string{"bone", "dust", "tomb", "crow", ends, turned}, "xxxxxx", []string{"bone", "dust", "tomb", "crow", "\x6f\xd3\x1d\xaf", "\x0f\xdb\x42\xa6"}},
	} {
		have := make([]bool, len(row.have))
		for i := range have {
			have[i] = row.have[i] == 'x'
		}
		wantShards(t, "P8.1: written out", shape(row.data, len(row.shards)-row.data), row.shards, have, row.want)
	}
}

// P8.1: each shape, each choice of shards: all that were encoded come back, in their places, or one has too few.
func TestEachChoice(t *testing.T) {
	for _, s := range shapes() {
		for seed, have := range choices(s.Data + s.Parity) {
			for _, length := range []int{0, 1, 2, 7, 32} {
				all := shardsOf(s, texts(seed*5+length, s.Data, length))
				wantShardsOrFew(t, "P8.1: each choice", s, all, have, all)
				wantShardsOrFew(t, "P8.1: each choice", s, without(all, have, ""), have, all)
			}
		}
	}
}

// P8.1: layer 7's data, and layer 6's parity of it, and layer 7's errors as one's own.
func TestByLayers(t *testing.T) {
	errs := map[api.Errno]api.Errno{api.OK: api.OK, api.ErrDecodeForm: api.ErrRebuildForm, api.ErrDecodeFew: api.ErrRebuildFew}
	for _, s := range append(shapes(), wrongShapes()...) {
		for seed := range 60 {
			shards := texts(seed, seed%7, seed%5)
			if seed%4 == 0 && len(shards) > 0 {
				shards[seed%len(shards)] += "!"
			}
			for _, have := range choices(len(shards)) {
				data, err := decode.Decode(s, shards, have)
				if err == api.OK {
					parity, _ := encode.Encode(s, data)
					wantShards(t, "P8.1: by layers", s, shards, have, slices.Concat(data, parity))
				} else {
					wantError(t, "P8.1: by layers", s, shards, have, errs[err])
				}
			}
		}
	}
}

// P8.1: without parity there is just the data, and one needs all of it.
func TestWithoutParity(t *testing.T) {
	for data := 1; data <= 4; data++ {
		s := shape(data, 0)
		shards := texts(data, data, 20)
		wantShards(t, "P8.1: without parity", s, shards, every(data), shards)
		for number := range data {
			have := every(data)
			have[number] = false
			wantFew(t, "P8.1: without parity", s, shards, have)
		}
	}
}

// P8.1: parity alone is enough where there is as much of it as of data.
func TestParityAlone(t *testing.T) {
	for _, s := range []api.Shape{shape(1, 1), shape(1, 2), shape(2, 2)} {
		have := every(s.Data + s.Parity)
		clear(have[:s.Data])
		all := shardsOf(s, texts(3, s.Data, 40))
		wantShards(t, "P8.1: parity alone", s, without(all, have, ""), have, all)
	}
}

// P8.1: none of the shards, or one fewer than Data: too few, whatever the shards say.
func TestFew(t *testing.T) {
	for _, s := range shapes() {
		count := s.Data + s.Parity
		for _, shards := range [][]string{alike("", count), alike("ab", count), texts(1, count, 20), texts(2, count, api.MaxText)} {
			wantFew(t, "P8.1: none", s, shards, make([]bool, count))
			for _, have := range choices(count) {
				if len(numbersOf(have)) < s.Data {
					wantFew(t, "P8.1: too few", s, shards, have)
				}
			}
		}
	}
}

// P8.1: where one has none, no length is wrong.
func TestNoneOfAnyLength(t *testing.T) {
	long := strings.Repeat("a", api.MaxText+1)
	for _, s := range shapes() {
		count := s.Data + s.Parity
		for _, shards := range [][]string{alike(long, count), slices.Repeat([]string{"a", long, "", "bc"}, 2)[:count]} {
			wantFew(t, "P8.1: none, of any length", s, shards, make([]bool, count))
		}
	}
}

// P8.1: what a shard that one doesn't have says, and how long it is, turns no answer.
func TestShardsThatOneHasNot(t *testing.T) {
	others := []string{"", "a", "four", "longer", strings.Repeat("\x00", api.MaxText), strings.Repeat("a", api.MaxText+1), strings.Repeat("a", 1<<20)}
	for _, s := range shapes() {
		all := shardsOf(s, texts(8, s.Data, 4))
		for _, have := range choices(s.Data + s.Parity) {
			for _, other := range others {
				wantShardsOrFew(t, "P8.1: one has not", s, without(all, have, other), have, all)
			}
		}
	}
}

// P8.1: the first Data shards that one has decide: those behind them that are wrong are put right.
func TestFirstDecide(t *testing.T) {
	for _, s := range shapes() {
		all := shardsOf(s, texts(6, s.Data, 9))
		for _, have := range choices(s.Data + s.Parity) {
			numbers := numbersOf(have)
			for further := s.Data; further < len(numbers); further++ {
				one, more := slices.Clone(all), slices.Clone(all)
				one[numbers[further]] = "ninebytes"
				for _, number := range numbers[further:] {
					more[number] = "ninebytes"
				}
				wantShards(t, "P8.1: one is put right", s, one, have, all)
				wantShards(t, "P8.1: they are put right", s, more, have, all)
			}
		}
	}
}

// P8.1: each of the first Data shards that one has decides: one turned byte of it is kept, and seen in the others.
func TestEachOfTheFirstDecides(t *testing.T) {
	for _, s := range shapes() {
		all := shardsOf(s, texts(7, s.Data, 6))
		for _, have := range choices(s.Data + s.Parity) {
			numbers := numbersOf(have)
			for i := 0; len(numbers) >= s.Data && i < s.Data; i++ {
				shards := slices.Clone(all)
				turned := []byte(shards[numbers[i]])
				turned[i] ^= 0x41
				shards[numbers[i]] = string(turned)
				wantFirstKept(t, "P8.1: one turned byte", s, shards, have)
			}
		}
	}
}

// P8.1: shards that no data were encoded to.
func TestShardsOfNoData(t *testing.T) {
	for _, s := range shapes() {
		count := s.Data + s.Parity
		for seed, have := range choices(count) {
			if len(numbersOf(have)) < s.Data {
				continue
			}
			for length := range 20 {
				wantFirstKept(t, "P8.1: of no data", s, texts(seed*20+length, count, length), have)
			}
			for _, shards := range [][]string{slices.Repeat([]string{"\x00", "\xff"}, 3), slices.Repeat([]string{"\xff", "\x00", "\x01"}, 2)} {
				wantFirstKept(t, "P8.1: of no data", s, shards[:count], have)
			}
		}
	}
}

// P8.1: where all data are there, these are kept and their parity is put behind them, whatever parity one has.
func TestAllDataThere(t *testing.T) {
	for _, s := range shapes() {
		count := s.Data + s.Parity
		for _, have := range choices(count) {
			copy(have, every(s.Data))
			shards := texts(2, count, 30)
			wantShards(t, "P8.1: all data there", s, shards, have, shardsOf(s, shards[:s.Data]))
		}
	}
}

// T1: what was rebuilt from any Data shards is rebuilt to the same from any others of it.
func TestRebuiltFromRebuilt(t *testing.T) {
	for _, s := range shapes() {
		count := s.Data + s.Parity
		for seed, have := range choices(count) {
			if len(numbersOf(have)) < s.Data {
				continue
			}
			all, _ := Rebuild(s, texts(seed, count, 8), have)
			for _, other := range choices(count) {
				wantShardsOrFew(t, "T1: rebuilt from what was rebuilt", s, without(all, other, "?"), other, all)
			}
		}
	}
}

// P8.1: shards of no bytes: as many texts as Data and Parity, each of no bytes.
func TestShardsOfNoBytes(t *testing.T) {
	for _, s := range shapes() {
		none := make([]string, s.Data+s.Parity)
		for _, have := range choices(s.Data + s.Parity) {
			wantShardsOrFew(t, "P8.1: no bytes", s, none, have, none)
			wantShardsOrFew(t, "P8.1: no bytes", s, without(none, have, "ab"), have, none)
		}
	}
}

// P8.1: shards of one byte, each byte in each place, the others 0 or 255.
func TestShardsOfOneByte(t *testing.T) {
	for _, s := range shapes() {
		for _, have := range choices(s.Data + s.Parity) {
			if len(numbersOf(have)) != s.Data {
				continue
			}
			for place := range s.Data {
				for b := range 256 {
					data := alike([]string{"\x00", "\xff"}[b%2], s.Data)
					data[place] = string([]byte{byte(b)})
					all := shardsOf(s, data)
					wantShards(t, "P8.1: one byte", s, without(all, have, "?"), have, all)
				}
			}
		}
	}
}

// P8.1: bytes 0 and 255 alone; data that are alike have shards that are like them.
func TestShardsAlike(t *testing.T) {
	for _, s := range shapes() {
		for _, text := range []string{"\x00", "\xff", "\x00\xff\x80\x01", strings.Repeat("\x00", 40), strings.Repeat("\xff", 40)} {
			all := alike(text, s.Data+s.Parity)
			for _, have := range choices(s.Data + s.Parity) {
				wantShardsOrFew(t, "P8.1: alike", s, without(all, have, "?"), have, all)
			}
		}
	}
}

// P8.1: shards of MaxText bytes, and of nearly so many.
func TestShardsOfMostBytes(t *testing.T) {
	for _, s := range shapes() {
		for _, length := range []int{api.MaxText - 1, api.MaxText} {
			all := shardsOf(s, texts(length, s.Data, length))
			for _, have := range choices(s.Data + s.Parity) {
				wantShardsOrFew(t, "P8.1: most bytes", s, without(all, have, ""), have, all)
			}
		}
	}
}

// P8.1: a shape that may not be, with as many shards as it tells if there can be so many, and with other counts.
func TestWrongShape(t *testing.T) {
	for _, s := range wrongShapes() {
		for count := range 9 {
			wantForm(t, "P8.1: a wrong shape", s, alike("ab", count), every(count))
			wantForm(t, "P8.1: a wrong shape, no bytes", s, alike("", count), every(count))
			wantForm(t, "P8.1: a wrong shape, none", s, alike("ab", count), make([]bool, count))
		}
		if count := s.Data + s.Parity; 0 <= count && count <= 512 {
			wantForm(t, "P8.1: a wrong shape", s, alike("ab", count), every(count))
			wantForm(t, "P8.1: a wrong shape, none", s, alike("ab", count), make([]bool, count))
		}
	}
	wantForm(t, "P8.1: no shape", api.Shape{}, nil, nil)
	wantForm(t, "P8.1: no shape", api.Shape{}, []string{}, []bool{})
}

// P8.1: fewer and more shards than Data and Parity, and as many have, or as many as there should be.
func TestWrongCountOfShards(t *testing.T) {
	for _, s := range shapes() {
		right := s.Data + s.Parity
		for _, count := range []int{0, 1, 2, 3, 4, 5, 6, 7, 12, 13, 5000} {
			if count != right {
				for _, text := range []string{"", "ab"} {
					wantForm(t, "P8.1: a wrong count", s, alike(text, count), every(count))
					wantForm(t, "P8.1: a wrong count", s, alike(text, count), every(right))
					wantForm(t, "P8.1: a wrong count, none", s, alike(text, count), make([]bool, count))
					wantForm(t, "P8.1: a wrong count, none", s, alike(text, count), make([]bool, right))
				}
			}
		}
	}
}

// P8.1: fewer and more have than shards, also where those that are there are enough.
func TestWrongCountOfHave(t *testing.T) {
	for _, s := range shapes() {
		right := s.Data + s.Parity
		for _, count := range []int{0, 1, 2, 3, 4, 5, 6, 7, 12, 13, 5000} {
			if count != right {
				wantForm(t, "P8.1: a wrong count of have", s, alike("ab", right), every(count))
				wantForm(t, "P8.1: a wrong count of have, none", s, alike("ab", right), make([]bool, count))
			}
		}
		more := make([]bool, right+1)
		copy(more, every(s.Data))
		wantForm(t, "P8.1: one false have more", s, alike("ab", right), more)
	}
}

// P8.1: none at all: nil and an empty list are one.
func TestNothing(t *testing.T) {
	for _, s := range shapes() {
		right := s.Data + s.Parity
		for _, shards := range [][]string{nil, {}} {
			for _, have := range [][]bool{nil, {}, every(right), make([]bool, right)} {
				wantForm(t, "P8.1: no shards", s, shards, have)
			}
		}
		for _, have := range [][]bool{nil, {}} {
			wantForm(t, "P8.1: no have", s, alike("ab", right), have)
		}
	}
}

// P8.1, R6: a shard that one has is unlike the others, in each place, also behind the first Data, also where one has too few.
func TestUnlikeLengths(t *testing.T) {
	others := []string{"", "a", "abc", strings.Repeat("a", api.MaxText), strings.Repeat("a", api.MaxText+1)}
	for _, s := range shapes() {
		for _, have := range choices(s.Data + s.Parity) {
			numbers := numbersOf(have)
			if len(numbers) < 2 {
				continue
			}
			for _, number := range numbers {
				for _, text := range others {
					shards := alike("ab", len(have))
					shards[number] = text
					wantForm(t, "P8.1: unlike lengths", s, shards, have)
					wantForm(t, "P8.1: unlike lengths", s, without(shards, have, text), have)
				}
			}
		}
	}
}

// P8.1: lengths that are all unlike, or add up to the same, or rise and fall.
func TestAllLengthsUnlike(t *testing.T) {
	for _, shards := range [][]string{
		{"", "a"}, {"a", ""}, {"a", "bc"}, {"ab", "c"},
		{"", "a", "bc"}, {"ab", "c", "def"}, {"ab", "c", "de"}, {"ab", "", "cdef"}, {"a", "b", ""}, {"", "a", "b"},
		{"", "a", "bc", "def"}, {"ab", "c", "d", "ef"}, {"ab", "cd", "e", "fgh"}, {"a", "b", "cd", "ef"}, {"", "a", "", "b"},
		{"a", "b", "c", "d", ""}, {"ab", "cd", "e", "fgh", "ij", "kl"}, {"", "a", "", "b", "", "c"},
	} {
		for parity := range 3 {
			if s := shape(len(shards)-parity, parity); gen.May(s) {
				wantForm(t, "P8.1: unlike lengths", s, shards, every(len(shards)))
			}
		}
	}
}

// P8.1, R6: shards that one has and that are longer than MaxText, all of them, also where one has too few.
func TestShardsTooLong(t *testing.T) {
	for _, s := range shapes() {
		for _, length := range []int{api.MaxText + 1, 2 * api.MaxText, 1 << 20} {
			for _, have := range choices(s.Data + s.Parity) {
				if len(numbersOf(have)) > 0 {
					shards := alike(strings.Repeat("a", length), len(have))
					wantForm(t, "P8.1: too long", s, shards, have)
					wantForm(t, "P8.1: too long", s, without(shards, have, ""), have)
				}
			}
		}
	}
}

// P8.1: one of the shards that one has is longer than MaxText, by one byte.
func TestOneShardTooLong(t *testing.T) {
	long := strings.Repeat("a", api.MaxText+1)
	for _, s := range shapes() {
		for _, have := range choices(s.Data + s.Parity) {
			for _, number := range numbersOf(have) {
				shards := alike(long[1:], len(have))
				shards[number] = long
				wantForm(t, "P8.1: one too long", s, shards, have)
			}
		}
	}
}

// P8.1, R6: several faults at once, too few among them: that of the form is told.
func TestSeveralFaults(t *testing.T) {
	long := strings.Repeat("a", api.MaxText+1)
	odd := slices.Repeat([]string{long, "", "a", "bc"}, 3)
	for _, s := range wrongShapes() {
		for count := range 8 {
			for _, have := range [][]bool{nil, {true}, every(count), every(count + 1), make([]bool, count)} {
				wantForm(t, "P8.1: several faults", s, odd[:count], have)
			}
		}
	}
	for _, s := range shapes() {
		right := s.Data + s.Parity
		for _, count := range []int{right - 1, right + 1, right + 4} {
			for _, have := range [][]bool{nil, {true}, every(count), every(right), every(right + 2), make([]bool, count)} {
				wantForm(t, "P8.1: several faults", s, odd[:count], have)
			}
		}
		wantForm(t, "P8.1: several faults", s, odd[:right], every(right+1))
		wantForm(t, "P8.1: several faults", s, odd[:right], make([]bool, right+1))
	}
}

// R4: the lists that are handed in stay as they are, their spare room too.
func TestArgumentsStay(t *testing.T) {
	for _, s := range shapes() {
		right := s.Data + s.Parity
		for _, have := range choices(right) {
			all := shardsOf(s, texts(5, s.Data, 5))
			shards := slices.Concat(without(all, have, "other"), []string{"spare", "room"})
			has := slices.Concat(have, []bool{true, false})
			beforeShards, beforeHas := slices.Clone(shards), slices.Clone(has)
			wantShardsOrFew(t, "R4: with spare room", s, shards[:right], has[:right], all)
			wantForm(t, "R4: with spare room", s, shards[:right+1], has[:right])
			wantForm(t, "R4: with spare room", s, shards[:right], has[:right+1])
			wantForm(t, "R4: with spare room", shape(s.Data, 3), shards[:right], has[:right])
			if !slices.Equal(shards, beforeShards) || !slices.Equal(has, beforeHas) {
				t.Fatalf("R4: %v: now %q, %v; want %q, %v", s, shards, has, beforeShards, beforeHas)
			}
		}
	}
}

// spoil writes over a list and the spare room behind it.
func spoil(list []string) {
	list = list[:cap(list)]
	for i := range list {
		list[i] = "spoiled"
	}
}

// R4: neither are the lists that are handed in kept, nor does an answer share memory with them.
func TestArgumentsAreNotKept(t *testing.T) {
	for _, s := range shapes() {
		right := s.Data + s.Parity
		all := shardsOf(s, texts(1, s.Data, 10))
		for _, have := range choices(right) {
			if len(numbersOf(have)) < s.Data {
				continue
			}
			shards := slices.Concat(all, []string{"spare", "room"})[:right]
			has := slices.Clone(have)
			got, _ := Rebuild(s, shards, has)
			spoil(shards)
			clear(has)
			if !slices.Equal(got, all) {
				t.Errorf("R4: %v, %v: the answer is now %q; want %q", s, have, got, all)
			}
			wantShards(t, "R4: asked anew", s, all, have, all)
		}
	}
}

// R4: what is written over an answer is seen neither in the shards nor in another answer.
func TestAnswersAreApart(t *testing.T) {
	for _, s := range shapes() {
		all := shardsOf(s, texts(2, s.Data, 10))
		for _, have := range choices(s.Data + s.Parity) {
			if len(numbersOf(have)) < s.Data {
				continue
			}
			shards := slices.Clone(all)
			first, _ := Rebuild(s, shards, have)
			second, _ := Rebuild(s, shards, have)
			spoil(first)
			if !slices.Equal(second, all) || !slices.Equal(shards, all) {
				t.Errorf("R4: %v, %v: now %q and %q; want %q", s, have, second, shards, all)
			}
			wantShards(t, "R4: asked again", s, shards, have, all)
		}
	}
}

// R5: an answer hangs on its arguments alone, not on what was asked ahead of it, an error among that.
func TestAskedAgain(t *testing.T) {
	for _, s := range shapes() {
		all := shardsOf(s, texts(4, s.Data, 12))
		for _, have := range choices(s.Data + s.Parity) {
			for _, other := range shapes() {
				count := other.Data + other.Parity
				more := shardsOf(other, texts(5, other.Data, 7))
				wantShards(t, "R5", other, more, every(count), more)
				wantFew(t, "R5", other, more, make([]bool, count))
				wantForm(t, "R5", other, more, make([]bool, count+1))
				wantShardsOrFew(t, "R5", s, all, have, all)
			}
		}
	}
}

// R5: the same from several goroutines at one time, of the same lists.
func TestAtOneTime(t *testing.T) {
	for _, s := range shapes() {
		all := shardsOf(s, texts(6, s.Data, 32))
		haves := choices(s.Data + s.Parity)
		var group sync.WaitGroup
		for range 8 {
			group.Go(func() {
				for _, have := range haves {
					got, err := Rebuild(s, all, have)
					enough := len(numbersOf(have)) >= s.Data
					if enough != (err == api.OK) || enough != slices.Equal(got, all) {
						t.Errorf("R5: Rebuild(%v, %v): %q, error %d", s, have, got, err)
					}
					spoil(got)
				}
			})
		}
		group.Wait()
	}
}
