package tree

import (
	"math"
	"math/big"
	"slices"
	"strings"
	"sync"
	"testing"

	"ossuary/api"
	"ossuary/sample"
)

const (
	prime = 2147483647
	base  = 65537
)

// sealOf works a piece's seal out apart from the program: from the first byte on, in big numbers, one rest at the end.
func sealOf(s string) int {
	total, power := new(big.Int), big.NewInt(1)
	for i := range len(s) {
		power.Mul(power, big.NewInt(base))
		total.Add(total, new(big.Int).Mul(power, big.NewInt(int64(s[i])+1)))
	}
	return int(total.Mod(total, big.NewInt(prime)).Int64())
}

// pairOf works the seal of two numbers from 0 below Prime out apart from the program: 64 bits without a sign hold all of it.
func pairOf(a, b int) int {
	return int((911 + uint64(a)*base + uint64(b)*base*base) % prime)
}

// leavesOf works leaves out apart from the program: byte by byte, a leaf is told at its eighth, and at the text's last one.
func leavesOf(s string) (leaves []int) {
	piece := ""
	for i := range len(s) {
		piece += s[i : i+1]
		if i%8 == 7 || i == len(s)-1 {
			leaves = append(leaves, sealOf(piece))
			piece = ""
		}
	}
	return leaves
}

// rootOf works a root out apart from the program, from the leaves up:
// neighbours are paired, and one that has none goes up as it is, until one is left.
func rootOf(leaves []int) int {
	for len(leaves) > 1 {
		var up []int
		for side := range slices.Chunk(leaves, 2) {
			if len(side) == 2 {
				side = []int{pairOf(side[0], side[1])}
			}
			up = append(up, side[0])
		}
		leaves = up
	}
	return leaves[0]
}

// powersOf tells of each of count leaves which power of Base stands at it in the root:
// one for each first side that it stands on, two for each other side.
func powersOf(count int) []int {
	powers := make([]int, count)
	for width := 1; width < count; width *= 2 {
		for from := 0; from+width < count; from += 2 * width {
			for at := from; at < min(from+2*width, count); at++ {
				powers[at] += 1 + (at-from)/width
			}
		}
	}
	return powers
}

// leaves makes count that may be, unlike from seed to seed.
func leaves(seed, count int) []int {
	next := sample.Numbers(seed)
	all := make([]int, count)
	for i := range all {
		all[i] = next() % prime
	}
	return all
}

// rising is first and those behind it.
func rising(first, count int) []int {
	all := make([]int, count)
	for i := range all {
		all[i] = first + i
	}
	return all
}

func alike(leaf, count int) []int { return slices.Repeat([]int{leaf}, count) }

// with is leaves with other at its place.
func with(leaves []int, at, other int) []int {
	out := slices.Clone(leaves)
	out[at] = other
	return out
}

// outsides tells numbers that no leaf may be.
func outsides() []int {
	return []int{
		-1, -2, -911, -prime, -prime - 1, -1 << 31, -1 << 32, math.MinInt, math.MinInt + 1,
		prime, prime + 1, prime + 911, 2 * prime, 1 << 32, 1<<32 + 1, math.MaxInt - 1, math.MaxInt,
	}
}

func wantLeaves(t *testing.T, about, s string, want []int) {
	t.Helper()
	if got := Leaves(s); !slices.Equal(got, want) {
		t.Fatalf("%s: %d bytes, %.40q: %v; want %v", about, len(s), s, got, want)
	}
}

func wantRoot(t *testing.T, about string, leaves []int, want int) {
	t.Helper()
	if got, err := Root(leaves); got != want || err != api.OK {
		t.Fatalf("%s: %v: %d, %d; want %d, %d", about, leaves, got, err, want, api.OK)
	}
}

func wantForm(t *testing.T, about string, leaves []int) {
	t.Helper()
	if got, err := Root(leaves); got != 0 || err != api.ErrTreeForm {
		t.Fatalf("%s: %d leaves: %d, %d; want 0, %d", about, len(leaves), got, err, api.ErrTreeForm)
	}
}

// P10.1, P10.2: the numbers that the chapter names.
func TestNumbers(t *testing.T) {
	if api.Block != 8 || api.MaxLeaves != 64 || api.Prime != prime || api.Base != base || api.Tag != 911 {
		t.Fatal("the numbers of package api are not the document's")
	}
	if api.OK != 0 || api.ErrTreeForm != 1000 {
		t.Fatal("the errors of package api are not the document's")
	}
}

// P10.1: the empty text has no leaf.
func TestNoLeaf(t *testing.T) {
	wantLeaves(t, "P10.1: the empty text", "", nil)
}

// P10.1: leaves written out: worked out by a script apart from the program.
func TestKnownLeaves(t *testing.T) {
	shard := "\x00\x01\x02\x03\x04\x05\x06\x07\x08\t\n\x0b\x0c\r\x0e\x0f\x10\x11\x12\x13\x14\x15\x16\x17\x18\x19\x1a\x1b\x1c\x1d\x1e\x1f"
	for _, row := range []struct {
		s    string
		want []int
	}{
		{"a", []int{6422626}},
		{"bone", []int{137759618}},
		{"bone dus", []int{777563002}},
		{"bone dust", []int{777563002, 7667829}},
		{strings.Repeat("\x00", 8), []int{45614040}},
		{strings.Repeat("\x00", 9), []int{45614040, 65537}},
		{strings.Repeat("\xff", 8), []int{939776005}},
		{strings.Repeat("\xff", 16), []int{939776005, 939776005}},
		{shard, []int{332930064, 697842384, 1062754704, 1427667024}},
		{"bone dust, ash and dust to bones", []int{777563002, 1642086214, 897974425, 769632972}},
	} {
		wantLeaves(t, "P10.1: written out", row.s, row.want)
	}
}

// P10.1: texts of each length about the edges of blocks, a shard's and MaxLeaves blocks' among them.
func TestLeavesOfEachLength(t *testing.T) {
	for length := range 3*api.Shard + 2 {
		for seed := range 5 {
			s := sample.Text(length*5+seed, length)
			wantLeaves(t, "P10.1: each length", s, leavesOf(s))
		}
	}
	for blocks := range api.MaxLeaves + 3 {
		for length := max(8*blocks-1, 0); length <= 8*blocks+1; length++ {
			s := sample.Text(length, length)
			wantLeaves(t, "P10.1: each number of blocks", s, leavesOf(s))
		}
	}
}

// P10.1: as many leaves as blocks that are begun, each from 0 below Prime.
func TestHowManyLeaves(t *testing.T) {
	for _, row := range [][]int{{1, 1}, {7, 1}, {8, 1}, {9, 2}, {15, 2}, {16, 2}, {17, 3}, {31, 4}, {32, 4}, {33, 5}, {512, 64}, {513, 65}, {4095, 512}, {4096, 512}, {4097, 513}} {
		got := Leaves(sample.Text(row[0], row[0]))
		if len(got) != row[1] {
			t.Errorf("P10.1: %d bytes: %d leaves; want %d", row[0], len(got), row[1])
		}
		if slices.Min(got) < 0 || slices.Max(got) >= prime {
			t.Errorf("P10.1: %d bytes: a leaf is outside: %v", row[0], got)
		}
	}
}

// P10.1: texts of MaxText bytes and longer; there may be more leaves than Root takes.
func TestLeavesOfLongTexts(t *testing.T) {
	for _, length := range []int{api.MaxText - 1, api.MaxText, api.MaxText + 1, 2*api.MaxText + 5, 1<<16 + 1, 1 << 20} {
		s := sample.Text(length, length)
		wantLeaves(t, "P10.1: long texts", s, leavesOf(s))
	}
	length := 1<<24 + 3
	want := append(alike(45614040, 1<<21), sealOf("\x00\x00\x00"))
	wantLeaves(t, "P10.1: a very long text", strings.Repeat("\x00", length), want)
}

// P10.1: bytes are counted, not letters; a letter may lie in two blocks.
func TestBytesNotLetters(t *testing.T) {
	for _, s := range []string{
		strings.Repeat("\u00e9", 9), strings.Repeat("\u20ac", 9), strings.Repeat("\U0001f480", 5),
		"\xff\xfe", "\xe2\x82", "sevenby\u20ac", strings.Repeat("\xed\xa0\x80", 6), strings.Repeat("\n\x00", 11),
	} {
		wantLeaves(t, "P10.1: bytes", s, leavesOf(s))
	}
}

// P10.1: a turned byte turns the leaf of its block alone.
func TestTurnedByteTurnsOneLeaf(t *testing.T) {
	for _, length := range []int{1, 8, 9, 17, api.Shard} {
		s := sample.Text(length, length)
		as := Leaves(s)
		for at := range length {
			for by := 1; by < 256; by++ {
				b := []byte(s)
				b[at] ^= byte(by)
				got := Leaves(string(b))
				if got[at/8] == as[at/8] || !slices.Equal(with(got, at/8, as[at/8]), as) {
					t.Fatalf("P10.1: %q, byte %d turned by %d: %v; before %v", s, at, by, got, as)
				}
			}
		}
	}
}

// P10.2: roots of up to nine leaves, paired one by one as the chapter tells.
func TestRootsPairByPair(t *testing.T) {
	const a, b, c, d, e, f, g, h, i = 3, 14, 159, 2653, 58979, 323846, 2643383, 27950288, 2147483646
	p := pairOf
	for _, row := range []struct {
		leaves []int
		want   int
	}{
		{[]int{a}, a},
		{[]int{a, b}, p(a, b)},
		{[]int{a, b, c}, p(p(a, b), c)},
		{[]int{a, b, c, d}, p(p(a, b), p(c, d))},
		{[]int{a, b, c, d, e}, p(p(p(a, b), p(c, d)), e)},
		{[]int{a, b, c, d, e, f}, p(p(p(a, b), p(c, d)), p(e, f))},
		{[]int{a, b, c, d, e, f, g}, p(p(p(a, b), p(c, d)), p(p(e, f), g))},
		{[]int{a, b, c, d, e, f, g, h}, p(p(p(a, b), p(c, d)), p(p(e, f), p(g, h)))},
		{[]int{a, b, c, d, e, f, g, h, i}, p(p(p(p(a, b), p(c, d)), p(p(e, f), p(g, h))), i)},
	} {
		wantRoot(t, "P10.2: pair by pair", row.leaves, row.want)
	}
}

// P10.2: roots written out, of leaves from 0 on, of leaves 0, of leaves Prime - 1, and of leaves from 1 on:
// worked out by a script apart from the program.
func TestKnownRoots(t *testing.T) {
	for _, row := range [][5]int{
		{1, 0, 0, 2147483646, 1},
		{2, 131986, 911, 2147287946, 328598},
		{3, 60294955, 59705118, 59115281, 60884792},
		{4, 182456851, 179114443, 177541545, 184029749},
		{5, 486222702, 477637300, 473705055, 490154947},
		{6, 610350720, 597046625, 592131319, 615266026},
		{7, 920997999, 895569482, 888294829, 928272652},
		{8, 1676251187, 1612024521, 1599048113, 1689227595},
		{9, 1949129645, 1793019523, 1761561564, 1980587604},
		{15, 1306805521, 664276712, 590547121, 1380535112},
		{16, 1683082967, 548630327, 441673267, 1790040027},
		{17, 860461882, 267039789, 8691302, 1118810369},
		{31, 1087104355, 612597574, 2072134984, 1775050592},
		{32, 1347543453, 1349747872, 468138576, 81669102},
		{33, 841975344, 1427384598, 1446344106, 823015836},
		{63, 518289606, 1093351671, 1397765009, 213876268},
		{64, 785813565, 1336932550, 512595003, 1610151112},
	} {
		count := row[0]
		wantRoot(t, "P10.2: written out", rising(0, count), row[1])
		wantRoot(t, "P10.2: written out", alike(0, count), row[2])
		wantRoot(t, "P10.2: written out", alike(prime-1, count), row[3])
		wantRoot(t, "P10.2: written out", rising(1, count), row[4])
	}
}

// P10.2: roots of the leaves of texts, written out.
func TestRootsOfTexts(t *testing.T) {
	wantRoot(t, "P10.2: a text", Leaves("bone"), 137759618)
	wantRoot(t, "P10.2: a text", Leaves("bone dust"), 1545342701)
	wantRoot(t, "P10.2: a shard", Leaves("bone dust, ash and dust to bones"), 1564941126)
	wantForm(t, "P10.2: the empty text", Leaves(""))
	wantForm(t, "P10.2: a text of more than MaxLeaves blocks", Leaves(sample.Text(1, 8*api.MaxLeaves+1)))
}

// P10.2: one leaf is its own root.
func TestOneLeaf(t *testing.T) {
	for _, leaf := range []int{0, 1, 2, 911, base, 1 << 30, prime - 2, prime - 1} {
		wantRoot(t, "P10.2: one leaf", []int{leaf}, leaf)
	}
}

// P10.2: each number of leaves, by chance and of both ends.
func TestEachNumberOfLeaves(t *testing.T) {
	for count := 1; count <= api.MaxLeaves; count++ {
		for seed := range 50 {
			all := leaves(count*50+seed, count)
			wantRoot(t, "P10.2: each number", all, rootOf(all))
			for i := range all {
				all[i] = all[i] % 2 * (prime - 1)
			}
			wantRoot(t, "P10.2: each number, both ends", all, rootOf(all))
		}
		wantRoot(t, "P10.2: each number, 0", alike(0, count), rootOf(alike(0, count)))
		wantRoot(t, "P10.2: each number, Prime - 1", alike(prime-1, count), rootOf(alike(prime-1, count)))
	}
}

// P10.2: 0 and Prime - 1 may be leaves, in each place.
func TestEndsInEachPlace(t *testing.T) {
	for count := 1; count <= api.MaxLeaves; count++ {
		all := leaves(count, count)
		for at := range all {
			for _, end := range []int{0, prime - 1} {
				turned := with(all, at, end)
				wantRoot(t, "P10.2: an end", turned, rootOf(turned))
			}
		}
	}
}

// P10.2: the root is from 0 below Prime, so that it may be a leaf of another.
func TestRootMayBeLeaf(t *testing.T) {
	for seed := range 2000 {
		got, _ := Root(leaves(seed, 1+seed%api.MaxLeaves))
		if got < 0 || got >= prime {
			t.Fatalf("P10.2: seed %d: root %d", seed, got)
		}
	}
}

// P10.2: no leaf, as nil, as an empty list, and as one with spare room.
func TestNoLeaves(t *testing.T) {
	wantForm(t, "P10.2: nil", nil)
	wantForm(t, "P10.2: empty", []int{})
	wantForm(t, "P10.2: empty, spare room", rising(1, 9)[:0])
}

// P10.2: more than MaxLeaves, whatever they are.
func TestManyLeaves(t *testing.T) {
	for _, count := range []int{65, 66, 96, 127, 128, 129, 256, 320, 4096, 1<<16 + 1, 1 << 20} {
		wantForm(t, "P10.2: too many, 0", alike(0, count))
		wantForm(t, "P10.2: too many", leaves(count, count))
		wantForm(t, "P10.2: too many, and outside", alike(-1, count))
		wantForm(t, "P10.2: too many, the last one outside", with(alike(1, count), count-1, prime))
	}
}

// P10.2: a leaf outside, at the first, a middle, the last and each other place.
func TestLeafOutside(t *testing.T) {
	for count := 1; count <= api.MaxLeaves; count++ {
		all := leaves(count, count)
		for at := range all {
			for _, outside := range outsides() {
				wantForm(t, "P10.2: one outside", with(all, at, outside))
			}
		}
		for _, outside := range outsides() {
			wantForm(t, "P10.2: all outside", alike(outside, count))
		}
	}
}

// P10.2: what stands in spare room is no leaf, and is not asked about.
func TestSpareRoomIsNoLeaf(t *testing.T) {
	room := alike(-1, 2*api.MaxLeaves)
	for count := 1; count <= api.MaxLeaves; count++ {
		all := leaves(count, count)
		copy(room, all)
		wantRoot(t, "P10.2: spare room", room[:count], rootOf(all))
	}
}

// P10.2: a turned leaf turns the root, wherever it stands.
func TestTurnedLeafTurnsRoot(t *testing.T) {
	for count := 1; count <= api.MaxLeaves; count++ {
		all := leaves(count, count)
		root, _ := Root(all)
		for at, leaf := range all {
			for _, step := range []int{1, 2, 911, base, 1 << 30, prime - 2, prime - 1, sample.Numbers(at)()%(prime-1) + 1} {
				turned := with(all, at, (leaf+step)%prime)
				if got, err := Root(turned); got == root || err != api.OK {
					t.Fatalf("P10.2: %d leaves, leaf %d turned by %d: %d, %d; before %d", count, at, step, got, err, root)
				}
			}
		}
	}
}

// P10.2: one more leaf turns the root, even one that is 0 or is as the one ahead of it.
func TestOneMoreLeafTurnsRoot(t *testing.T) {
	for count := 1; count < api.MaxLeaves; count++ {
		for _, all := range [][]int{leaves(count, count), alike(0, count), alike(prime-1, count)} {
			root, _ := Root(all)
			for _, more := range []int{0, all[count-1], prime - 1} {
				if got, _ := Root(append(slices.Clone(all), more)); got == root {
					t.Fatalf("P10.2: %v has one root with and without %d behind", all, more)
				}
			}
		}
	}
}

// P10.2: two leaves that change places turn the root; but for two at which one power of Base stands:
// by the pairs that the chapter asks for the root is as it was then.
func TestLeavesThatChangePlaces(t *testing.T) {
	for count := 2; count <= api.MaxLeaves; count++ {
		all, powers := leaves(count, count), powersOf(count)
		root, _ := Root(all)
		for i := range all {
			for j := range i {
				changed := with(with(all, i, all[j]), j, all[i])
				wantRoot(t, "P10.2: changed places", changed, rootOf(changed))
				if got, _ := Root(changed); (got == root) != (powers[i] == powers[j]) {
					t.Fatalf("P10.2: %d leaves, %d and %d have changed places: %d; before %d", count, j, i, got, root)
				}
			}
		}
	}
}

// P10.2: two neighbours that are paired turn the root when they change places, wherever they stand.
func TestNeighboursThatChangePlaces(t *testing.T) {
	for count := 2; count <= api.MaxLeaves; count++ {
		all := leaves(count, count)
		root, _ := Root(all)
		for i := 1; i < count; i += 2 {
			changed := with(with(all, i-1, all[i]), i, all[i-1])
			if got, err := Root(changed); got == root || err != api.OK {
				t.Fatalf("P10.2: %v: %d, %d; of %v too", changed, got, err, all)
			}
		}
	}
}

// P10.2: both sides, and the first and the last leaf, turn the root when they change places where the sides are full.
func TestSidesThatChangePlaces(t *testing.T) {
	for count := 2; count <= api.MaxLeaves; count *= 2 {
		all := leaves(count, count)
		root, _ := Root(all)
		sides := slices.Concat(all[count/2:], all[:count/2])
		ends := with(with(all, 0, all[count-1]), count-1, all[0])
		for _, changed := range [][]int{sides, ends} {
			if got, err := Root(changed); got == root || err != api.OK {
				t.Fatalf("P10.2: %v: %d, %d; of %v too", changed, got, err, all)
			}
		}
	}
}

// P10.2: each leaf stands in the root times its own power of Base.
func TestPowerOfEachLeaf(t *testing.T) {
	for count := 1; count <= api.MaxLeaves; count++ {
		none, _ := Root(alike(0, count))
		for at, power := range powersOf(count) {
			times := new(big.Int).Exp(big.NewInt(base), big.NewInt(int64(power)), big.NewInt(prime))
			one := with(alike(0, count), at, 1)
			wantRoot(t, "P10.2: a power", one, (none+int(times.Int64()))%prime)
		}
	}
}

// P10.2: of a row of leaves the root is the pair of both sides' roots, where the first is the greatest power of 2.
func TestSidesOfRow(t *testing.T) {
	for count := 2; count <= api.MaxLeaves; count++ {
		all := leaves(count, count)
		first := 32
		for first >= count {
			first /= 2
		}
		a, _ := Root(all[:first])
		b, _ := Root(all[first:])
		wantRoot(t, "P10.2: both sides", all, pairOf(a, b))
	}
}

// wantStays asks Root about the first count of room, and then whether all of room is as it was.
func wantStays(t *testing.T, room []int, count int) {
	t.Helper()
	as := slices.Clone(room)
	Root(room[:count])
	if !slices.Equal(room, as) {
		t.Fatalf("R4: %d leaves: %v; before %v", count, room, as)
	}
}

// R4: what is handed in is as it was, its spare room too, whether it is taken or refused.
func TestHandedInStays(t *testing.T) {
	for count := range api.MaxLeaves + 10 {
		room := leaves(count, count+20)
		wantStays(t, room, count)
		for at := range count {
			wantStays(t, with(room, at, -1), count)
			wantStays(t, with(room, at, prime), count)
		}
	}
}

// R4: what Leaves answers shares no memory, its spare room neither, with another answer, of the same text or of another.
func TestAnswersApart(t *testing.T) {
	for _, length := range []int{1, 8, 9, 32, 33, 100, 512} {
		s, other := sample.Text(length, length), sample.Text(-length, length)
		answer, again, others := Leaves(s), Leaves(s), Leaves(other)
		whole := answer[:cap(answer)]
		for at := range whole {
			whole[at] = -at - 1
		}
		if !slices.Equal(again, leavesOf(s)) || !slices.Equal(others, leavesOf(other)) {
			t.Fatalf("R4: %d bytes: %v and %v, behind one that was written over", length, again, others)
		}
		wantLeaves(t, "R4: asked behind one that was written over", s, again)
	}
}

// R4: Root keeps no leaves: those that are written over behind it don't count.
func TestLeavesNotKept(t *testing.T) {
	all, other := leaves(1, 9), leaves(2, 9)
	first, want := rootOf(all), rootOf(other)
	wantRoot(t, "R4: before", all, first)
	copy(all, other)
	wantRoot(t, "R4: written over", all, want)
}

// R5: the same again, whatever was asked between.
func TestAskedAgain(t *testing.T) {
	for count := 1; count <= api.MaxLeaves; count++ {
		s, all := sample.Text(count, count*7), leaves(count, count)
		wanted, root := leavesOf(s), rootOf(all)
		for other := range 20 {
			Leaves(sample.Text(other, other*9))
			Root(leaves(other, other))
			wantForm(t, "R5: between", with(all, count-1, -1))
			wantLeaves(t, "R5: asked again", s, wanted)
			wantRoot(t, "R5: asked again", all, root)
		}
	}
}

// R5: the same of leaves that lie within others.
func TestLeavesWithinLeaves(t *testing.T) {
	long := leaves(3, 130)
	for from := range 60 {
		for count := 1; count <= api.MaxLeaves; count++ {
			wantRoot(t, "R5: within others", long[from:from+count], rootOf(long[from:from+count]))
		}
	}
}

// R5: the same from several goroutines at one time, of one text and of one row of leaves.
func TestAtOneTime(t *testing.T) {
	s, all := sample.Text(7, api.MaxText), leaves(7, api.MaxLeaves)
	wanted, root := leavesOf(s), rootOf(all)
	var group sync.WaitGroup
	for range 8 {
		group.Go(func() {
			for range 50 {
				if got := Leaves(s); !slices.Equal(got, wanted) {
					t.Errorf("R5: Leaves: %v; want %v", got, wanted)
				}
				if got, err := Root(all); got != root || err != api.OK {
					t.Errorf("R5: Root: %d, %d; want %d", got, err, root)
				}
			}
		})
	}
	group.Wait()
}
