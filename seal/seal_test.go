package seal

import (
	"math"
	"math/big"
	"strings"
	"sync"
	"testing"

	"ossuary/api"
	"ossuary/sample"
)

var (
	prime = big.NewInt(2147483647)
	base  = big.NewInt(65537)
	tag   = big.NewInt(911)
)

// sum works the seal of s out apart from the program: from the first byte on, each power by itself, one rest at the end.
func sum(s string) int {
	total := new(big.Int)
	for i := range len(s) {
		power := new(big.Int).Exp(base, big.NewInt(int64(i+1)), prime)
		total.Add(total, power.Mul(power, big.NewInt(int64(s[i])+1)))
	}
	return int(total.Mod(total, prime).Int64())
}

// sumAlike is the sum of count bytes that are alike, by the sum of powers in one: (Base^(count+1) - Base) / (Base - 1).
func sumAlike(b byte, count int) int {
	powers := new(big.Int).Exp(base, big.NewInt(int64(count+1)), prime)
	powers.Sub(powers, base)
	one := new(big.Int).Sub(base, big.NewInt(1))
	powers.Mul(powers, one.ModInverse(one, prime))
	powers.Mul(powers, big.NewInt(int64(b)+1))
	return int(powers.Mod(powers, prime).Int64())
}

// pairSum works the seal of a and b out apart from the program, by numbers that do not pass over.
func pairSum(a, b int) int {
	x := new(big.Int).Mod(big.NewInt(int64(a)), prime)
	y := new(big.Int).Mod(big.NewInt(int64(b)), prime)
	x.Mul(x, base)
	y.Mul(y, base).Mul(y, base)
	x.Add(x, y).Add(x, tag)
	return int(x.Mod(x, prime).Int64())
}

// restOf tells n modulo Prime, from 0 on.
func restOf(n int) int {
	return int(new(big.Int).Mod(big.NewInt(int64(n)), prime).Int64())
}

// number tells one from 0 below Prime, unlike from seed to seed.
func number(seed int) int { return sample.Numbers(seed)() % api.Prime }

// rising is length bytes from 0 on; 255 is followed by 0.
func rising(length int) string {
	b := make([]byte, length)
	for i := range b {
		b[i] = byte(i)
	}
	return string(b)
}

// turned is s, of which the bits of by in one byte are turned.
func turned(s string, at int, by byte) string {
	b := []byte(s)
	b[at] ^= by
	return string(b)
}

func wantOf(t *testing.T, about, s string, want int) {
	t.Helper()
	if got := Of(s); got != want {
		t.Fatalf("%s: Of(%.40q), of %d bytes: %d; want %d", about, s, len(s), got, want)
	}
}

func wantPair(t *testing.T, about string, a, b, want int) {
	t.Helper()
	if got := Pair(a, b); got != want {
		t.Fatalf("%s: Pair(%d, %d): %d; want %d", about, a, b, got, want)
	}
}

// wantTold holds the pairs of a and of other against each other, with beside on either side of them.
func wantTold(t *testing.T, a, other, beside int) {
	t.Helper()
	alike := restOf(a) == restOf(other)
	if (Pair(a, beside) == Pair(other, beside)) != alike {
		t.Fatalf("P9.2: first %d and %d, beside %d: are they alike? want %v", a, other, beside, alike)
	}
	if (Pair(beside, a) == Pair(beside, other)) != alike {
		t.Fatalf("P9.2: second %d and %d, beside %d: are they alike? want %v", a, other, beside, alike)
	}
}

// edges are numbers about 0, about those that Prime divides, and about the greatest and the least.
func edges() []int {
	middles := []int{
		0, 911, 65537, 65537 * 65537, 1 << 31, 1 << 32, 1 << 47, 1 << 48, 1 << 62,
		api.Prime, 2 * api.Prime, 65537 * api.Prime, api.Prime * api.Prime, math.MaxInt / api.Prime * api.Prime,
	}
	all := []int{math.MaxInt, math.MaxInt - 1, math.MaxInt - 2, math.MinInt, math.MinInt + 1, math.MinInt + 2}
	for _, middle := range middles {
		for d := -2; d <= 2; d++ {
			all = append(all, middle+d, -middle+d)
		}
	}
	return all
}

// P9.1: the numbers are those of the document.
func TestNumbers(t *testing.T) {
	if api.Prime != 2147483647 || api.Base != 65537 || api.Tag != 911 {
		t.Errorf("Prime %d, Base %d, Tag %d", api.Prime, api.Base, api.Tag)
	}
}

// P9.1: seals written out, worked out by a script that takes no rest until the end.
func TestKnownTexts(t *testing.T) {
	for _, row := range []struct {
		text string
		want int
	}{
		{"", 0},
		{"\x00", 65537},
		{"\x01", 131074},
		{"a", 6422626},
		{"\xfe", 16711935},
		{"\xff", 16777472},
		{"\x00\x00", 196612},
		{"\x00\xff", 33620737},
		{"\xff\x00", 16908547},
		{"\xff\xff", 50332672},
		{"ab", 19399051},
		{"ba", 19333513},
		{"bone", 137759618},
		{"\x00bone", 330898415},
		{"bone\x00", 139660203},
		{"bone\x00\x00", 144247822},
		{"\xffbone", 347610350},
		{"bone\xff", 624309378},
		{"ossuary", 70957792},
		{"versions kept on disks that rot", 98511757},
	} {
		wantOf(t, "P9.1: written out", row.text, row.want)
	}
}

// P9.1: long texts written out: of bytes 0, of bytes 255, of bytes that rise from 0 on.
func TestKnownLongTexts(t *testing.T) {
	for _, row := range []struct{ length, zeros, ends, rising int }{
		{3, 524299, 134220544, 1310748},
		{8, 45614040, 939776005, 332930064},
		{32, 76076099, 148128521, 654902264},
		{64, 2125487096, 811333885, 2117763022},
		{1248, 238752488, 991094812, 2104290993},
		{4095, 1440136367, 1455206315, 1030703025},
		{4096, 310863966, 124280357, 1847260714},
		{4097, 2061929837, 1720544757, 1450842938},
		{8192, 1857039927, 808335325, 267448539},
	} {
		wantOf(t, "P9.1: bytes 0", strings.Repeat("\x00", row.length), row.zeros)
		wantOf(t, "P9.1: bytes 255", strings.Repeat("\xff", row.length), row.ends)
		wantOf(t, "P9.1: bytes that rise", rising(row.length), row.rising)
	}
}

// P9.1: sums that Prime divides, and those one more and one less: the least seal and the greatest.
func TestSumsAtPrime(t *testing.T) {
	for _, row := range []struct {
		text string
		want int
	}{
		{"I\xdcZ\x9e\xdc\xa9ij\x89\xc7$\x9d\xce\xbe\xdc\xe2\xa15\xed\xc7\x8d\x0d\xd9\x04\x8d\x0ep\x0d\xbe\x96Z\xcf", 0},
		{"\x9fsC\xcb=c=7s\x10\xcf\x9c)\xa6\x1b\xae\xa6\xdc\x14\x1ek\xf64\xa1\xfb\x91\x1d\xa81F\xe1J", 1},
		{"\xf9\xea\x90\xf0\x03\x10\xd7\x0e\x1c\x0f\xea\xdb\x8e\xab\xbc\x95\x99\xd2\xb0\x16\xb3\xde\xf9\x85F\x5cB\xba\xdcp\x14\xf3", api.Prime - 1},
	} {
		wantOf(t, "P9.1: at Prime", row.text, row.want)
	}
}

// P9.1: each byte alone, and each pair of bytes.
func TestFewBytes(t *testing.T) {
	for a := range 256 {
		wantOf(t, "P9.1: one byte", string([]byte{byte(a)}), (a+1)*65537)
		for b := range 256 {
			want := ((a+1)*65537 + (b+1)*4295098369) % 2147483647
			wantOf(t, "P9.1: two bytes", string([]byte{byte(a), byte(b)}), want)
		}
	}
}

// P9.1: texts of all lengths up to some hundreds, whose sums pass Prime again and again.
func TestManyTexts(t *testing.T) {
	for length := range 400 {
		for seed := range 3 {
			s := sample.Text(length*3+seed, length)
			wantOf(t, "P9.1: many texts", s, sum(s))
		}
	}
}

// P9.1: up to twelve bytes 0 and 255, in any row.
func TestEndsOfBytes(t *testing.T) {
	for length := range 13 {
		for mask := range 1 << length {
			b := make([]byte, length)
			for i := range b {
				b[i] = byte(mask >> i & 1 * 255)
			}
			wantOf(t, "P9.1: bytes 0 and 255", string(b), sum(string(b)))
		}
	}
}

// P9.1: texts that begin with or end in bytes 0 are not those without them.
func TestZerosAboutTexts(t *testing.T) {
	for _, s := range []string{"", "a", "bone", "\xff", "\x00\xff\x00", sample.Text(1, 61)} {
		seals := map[int]int{}
		for count := range 100 {
			zeros := strings.Repeat("\x00", count)
			wantOf(t, "P9.1: zeros ahead", zeros+s, sum(zeros+s))
			wantOf(t, "P9.1: zeros behind", s+zeros, sum(s+zeros))
			wantOf(t, "P9.1: zeros about", zeros+s+zeros, sum(zeros+s+zeros))
			if other, seen := seals[Of(s+zeros)]; seen {
				t.Fatalf("P9.1: %q has one seal with %d and with %d zeros behind", s, other, count)
			}
			seals[Of(s+zeros)] = count
		}
	}
}

// P9.1: texts of about MaxText bytes, of about as many as the powers of Base that are unlike, and of far more.
func TestLongTexts(t *testing.T) {
	for _, length := range []int{api.MaxText - 1, api.MaxText, api.MaxText + 1, 2 * api.MaxText, 1<<16 + 1} {
		for seed := range 3 {
			s := sample.Text(seed, length)
			wantOf(t, "P9.1: long texts", s, sum(s))
		}
	}
	for _, length := range []int{549790, 549791, 549792, 1 << 20, 1<<24 + 5} {
		for _, b := range []byte{0, 1, 'a', 254, 255} {
			wantOf(t, "P9.1: long texts, bytes alike", strings.Repeat(string([]byte{b}), length), sumAlike(b, length))
		}
	}
}

// P9.1: bytes are counted, not letters, and ones that are no letters too.
func TestBytesNotLetters(t *testing.T) {
	for _, s := range []string{"\u00e9", "\u20ac", "\U0001f480", "\ufffd", "\xff\xfe", "\xe2\x82", "a\x80b", "\xed\xa0\x80"} {
		wantOf(t, "P9.1: bytes", s, sum(s))
	}
}

// P9.2: one turned byte of a text, in each place, by each turn, turns the seal.
func TestEachTurnedByte(t *testing.T) {
	for _, length := range []int{1, 2, 3, 8, 32, 64, 70} {
		for _, s := range []string{sample.Text(length, length), strings.Repeat("\x00", length), strings.Repeat("\xff", length)} {
			seal := Of(s)
			for at := range length {
				for by := 1; by < 256; by++ {
					if Of(turned(s, at, byte(by))) == seal {
						t.Fatalf("P9.2: %q has one seal with and without byte %d turned by %d", s, at, by)
					}
				}
			}
		}
	}
}

// P9.2: of two texts that differ in one byte no two have one seal, whatever bytes these are.
func TestEachByteInOnePlace(t *testing.T) {
	for _, length := range []int{1, 9, 64, api.MaxText, api.MaxText + 1} {
		s := sample.Text(length, length)
		for _, at := range []int{0, length / 2, length - 1} {
			seals := map[int]int{}
			for by := range 256 {
				seal := Of(turned(s, at, byte(by)))
				if other, seen := seals[seal]; seen {
					t.Fatalf("P9.2: %.40q has one seal with byte %d turned by %d and by %d", s, at, other, by)
				}
				seals[seal] = by
			}
		}
	}
}

// P9.2: one turned byte of a text of MaxText bytes, in each place.
func TestTurnedByteOfMostBytes(t *testing.T) {
	s := sample.Text(9, api.MaxText)
	seal, next := Of(s), sample.Numbers(3)
	for at := range len(s) {
		by := byte(1 + next()%255)
		if Of(turned(s, at, by)) == seal {
			t.Fatalf("P9.2: a text of MaxText bytes has one seal with and without byte %d turned by %d", at, by)
		}
	}
}

// P9.1: two bytes that have changed places are told: the row of bytes counts.
func TestRowOfBytesCounts(t *testing.T) {
	s := rising(100)
	for i := range len(s) {
		for j := range i {
			b := []byte(s)
			b[i], b[j] = b[j], b[i]
			if Of(string(b)) == Of(s) {
				t.Fatalf("P9.1: bytes %d and %d have changed places, and the seal is as it was", i, j)
			}
		}
	}
}

// P9.1: pairs written out, one of both 0: worked out by a script whose numbers do not pass over.
func TestKnownPairsWithZero(t *testing.T) {
	for _, row := range []struct{ n, first, second int }{
		{0, 911, 911},
		{1, 66448, 131986},
		{2, 131985, 263061},
		{911, 59705118, 119410236},
		{65537, 131986, 328598},
		{api.Prime - 1, 2147419021, 2147353483},
		{api.Prime, 911, 911},
		{api.Prime + 1, 66448, 131986},
		{2 * api.Prime, 911, 911},
		{-1, 2147419021, 2147353483},
		{-2, 2147353484, 2147222408},
		{-api.Prime, 911, 911},
		{-api.Prime - 1, 2147419021, 2147353483},
		{1 << 32, 131985, 263061},
		{math.MinInt, 2147353484, 2147222408},
		{math.MinInt + 1, 2147419021, 2147353483},
		{math.MaxInt, 66448, 131986},
		{math.MaxInt - 1, 911, 911},
	} {
		wantPair(t, "P9.1: written out, first", row.n, 0, row.first)
		wantPair(t, "P9.1: written out, second", 0, row.n, row.second)
	}
}

// P9.1: pairs written out, neither of both 0; the least seal and the greatest among them.
func TestKnownPairs(t *testing.T) {
	for _, row := range []struct{ a, b, want int }{
		{1, 2, 328598},
		{2, 1, 263060},
		{65537, 911, 119541311},
		{911, 65537, 60032805},
		{2087715725, 1, 0},
		{2087846799, api.Prime - 1, 0},
		{2087715722, 65537, 1},
		{2087650190, 1, api.Prime - 1},
		{2087781264, api.Prime - 1, api.Prime - 1},
		{api.Prime - 1, api.Prime - 1, 2147287946},
		{api.Prime - 1, api.Prime, 2147419021},
		{api.Prime, api.Prime - 1, 2147353483},
		{math.MinInt, math.MinInt, 2147091334},
		{math.MinInt, math.MaxInt, 912},
		{math.MaxInt, math.MinInt, 2147287945},
		{math.MaxInt, math.MaxInt, 197523},
		{api.Prime - 1, math.MinInt, 2147156871},
		{math.MinInt, api.Prime - 1, 2147222409},
		{-1, 1, 66449},
		{1, -1, 2147419020},
	} {
		wantPair(t, "P9.1: written out", row.a, row.b, row.want)
	}
}

// P9.1: any two of the edges.
func TestEdgesOfPairs(t *testing.T) {
	for _, a := range edges() {
		for _, b := range edges() {
			wantPair(t, "P9.1: edges", a, b, pairSum(a, b))
		}
	}
}

// P9.1: numbers from 0 to Prime - 1, and of all sizes, below 0 too.
func TestManyPairs(t *testing.T) {
	next := sample.Numbers(1)
	for range 20000 {
		a, b := next()%api.Prime, next()%api.Prime
		wantPair(t, "P9.1: many pairs", a, b, pairSum(a, b))
		a, b = (next()<<32^next())>>(next()%64), (next()<<32^next())>>(next()%64)
		wantPair(t, "P9.1: many pairs, of all sizes", a, b, pairSum(a, b))
		wantPair(t, "P9.1: many pairs, below 0", -a, -b, pairSum(-a, -b))
	}
}

// P9.2: one of both turned turns the pair, just where it is another modulo Prime.
func TestTurnedPairs(t *testing.T) {
	for _, a := range edges() {
		for _, b := range edges() {
			wantTold(t, a, b, 0)
			wantTold(t, a, b, 77)
			wantTold(t, a, b, api.Prime-1)
		}
	}
	next := sample.Numbers(2)
	for range 20000 {
		wantTold(t, next(), next(), next())
		wantTold(t, next()<<31, -next()<<31, next())
	}
}

// P9.2: each bit of either number, turned, and each small step up and down.
func TestTurnedBitsAndSteps(t *testing.T) {
	for _, a := range []int{0, 1, 911, 65537, api.Prime - 1, number(1), number(2)} {
		for bit := range 31 {
			wantTold(t, a, a^1<<bit, number(bit))
		}
		for step := 1; step < 2000; step++ {
			wantTold(t, a, a+step, number(step))
			wantTold(t, a, a-step, number(step))
		}
	}
}

// P9.1: which is the first of both counts, unless they are one modulo Prime.
func TestOrderOfBothCounts(t *testing.T) {
	next := sample.Numbers(4)
	all := edges()
	for range 100 {
		all = append(all, next(), -next())
	}
	for _, a := range all {
		for _, b := range all {
			alike := restOf(a) == restOf(b)
			if (Pair(a, b) == Pair(b, a)) != alike {
				t.Fatalf("P9.1: %d and %d, turned round: are they alike? want %v", a, b, alike)
			}
		}
	}
}

// P9.1: a pair is the pair of what both are modulo Prime, and lies from 0 below Prime.
func TestPairsModuloPrime(t *testing.T) {
	for _, a := range edges() {
		for _, b := range edges() {
			got := Pair(a, b)
			if got < 0 || got >= api.Prime || got != Pair(restOf(a), restOf(b)) {
				t.Fatalf("P9.1: Pair(%d, %d): %d", a, b, got)
			}
		}
	}
}

// R5: the same again, whatever was asked between.
func TestAskedAgain(t *testing.T) {
	for length := range 50 {
		s := sample.Text(length, length)
		a, b := number(length), -number(length+50)
		seal, pair := Of(s), Pair(a, b)
		for other := range 20 {
			Of(sample.Text(other, other*9))
			Pair(other, math.MinInt+other)
			wantOf(t, "R5: asked again", s, seal)
			wantPair(t, "R5: asked again", a, b, pair)
		}
	}
}

// R5: one text is one, wherever its bytes lie.
func TestTextsWithinTexts(t *testing.T) {
	long := sample.Text(5, 300)
	for from := range 100 {
		for length := range 100 {
			part := long[from : from+length]
			wantOf(t, "R5: within another", part, Of(strings.Clone(part)))
		}
	}
}

// R5: the same from several goroutines at one time.
func TestAtOneTime(t *testing.T) {
	s := sample.Text(7, api.MaxText)
	seal, pair := sum(s), pairSum(math.MinInt, math.MaxInt)
	var group sync.WaitGroup
	for range 8 {
		group.Go(func() {
			for range 50 {
				if got := Of(s); got != seal {
					t.Errorf("R5: Of: %d; want %d", got, seal)
				}
				if got := Pair(math.MinInt, math.MaxInt); got != pair {
					t.Errorf("R5: Pair: %d; want %d", got, pair)
				}
			}
		})
	}
	group.Wait()
}
