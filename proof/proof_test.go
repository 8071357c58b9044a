package proof

import (
	"math"
	"slices"
	"sync"
	"testing"

	"ossuary/api"
	"ossuary/sample"
	"ossuary/tree"
)

const (
	prime = 2147483647
	base  = 65537
)

// pairOf works the seal of two numbers from 0 below Prime out apart from the program: 64 bits without a sign hold all of it.
func pairOf(a, b int) int {
	return int((911 + uint64(a)*base + uint64(b)*base*base) % prime)
}

// upOf pairs neighbours, apart from the program; one that has none goes up as it is.
func upOf(leaves []int) (up []int) {
	for side := range slices.Chunk(leaves, 2) {
		if len(side) == 2 {
			side = []int{pairOf(side[0], side[1])}
		}
		up = append(up, side[0])
	}
	return up
}

// rootOf works a root out apart from the program, from the leaves up.
func rootOf(leaves []int) int {
	for len(leaves) > 1 {
		leaves = upOf(leaves)
	}
	return leaves[0]
}

// pathOf works a path out apart from the program, from the leaf up: its neighbour on each floor, if it has one.
func pathOf(leaves []int, at int) (path []int) {
	for ; len(leaves) > 1; leaves, at = upOf(leaves), at/2 {
		if at^1 < len(leaves) {
			path = append(path, leaves[at^1])
		}
	}
	return path
}

// follow goes a path up apart from the program, from the leaf on:
// it tells where the path leads, and whether it ends just where no number more is needed.
func follow(p proven) (root int, ends bool) {
	root = p.leaf
	path := p.path
	for count, at := p.count, p.at; count > 1; count, at = (count+1)/2, at/2 {
		if at^1 >= count {
			continue
		}
		if len(path) == 0 {
			return root, false
		}
		if at%2 == 0 {
			root = pairOf(root, path[0])
		} else {
			root = pairOf(path[0], root)
		}
		path = path[1:]
	}
	return root, len(path) == 0
}

// leaves makes count that may be, unlike from seed to seed.
func leaves(seed, count int) []int {
	next := sample.Numbers(seed)
	all := make([]int, count)
	for i := range all {
		all[i] = next() % prime
	}
	return all
}

// rising is 0 and those behind it.
func rising(count int) []int {
	all := make([]int, count)
	for i := range all {
		all[i] = i
	}
	return all
}

func alike(leaf, count int) []int { return slices.Repeat([]int{leaf}, count) }

// with is row with other at its place.
func with(row []int, at, other int) []int {
	out := slices.Clone(row)
	out[at] = other
	return out
}

// outsides tells numbers that no leaf may be, nor a number of a path.
func outsides() []int {
	return []int{
		-1, -2, -911, -prime, -prime - 1, -1 << 31, -1 << 32, math.MinInt, math.MinInt + 1,
		prime, prime + 1, prime + 911, 2 * prime, 1 << 32, 1<<32 + 1, math.MaxInt - 1, math.MaxInt,
	}
}

// turns tells how far a number may be turned so that it is another one below Prime.
func turns(seed int) []int {
	return []int{1, 2, 911, base, 1 << 30, prime - 2, prime - 1, sample.Numbers(seed)()%(prime-1) + 1}
}

// proven is a right question of Check.
type proven struct {
	root, count, at, leaf int
	path                  []int
}

// right makes one apart from the program.
func right(all []int, at int) proven {
	return proven{rootOf(all), len(all), at, all[at], pathOf(all, at)}
}

// each calls do with a right question of each number of leaves at each place.
func each(do func(p proven)) {
	for count := 1; count <= api.MaxLeaves; count++ {
		all := leaves(count, count)
		for at := range all {
			do(right(all, at))
		}
	}
}

func wantPath(t *testing.T, about string, leaves []int, at int, want []int) {
	t.Helper()
	if got, err := Path(leaves, at); !slices.Equal(got, want) || err != api.OK {
		t.Fatalf("%s: %d of %v: %v, %d; want %v, %d", about, at, leaves, got, err, want, api.OK)
	}
}

func wantForm(t *testing.T, about string, leaves []int, at int) {
	t.Helper()
	if got, err := Path(leaves, at); len(got) != 0 || err != api.ErrProofForm {
		t.Fatalf("%s: %d of %d leaves: %v, %d; want none, %d", about, at, len(leaves), got, err, api.ErrProofForm)
	}
}

func wantTrue(t *testing.T, about string, p proven) {
	t.Helper()
	if !Check(p.root, p.count, p.at, p.leaf, p.path) {
		t.Fatalf("%s: %+v: false; want true", about, p)
	}
}

func wantFalse(t *testing.T, about string, p proven) {
	t.Helper()
	if Check(p.root, p.count, p.at, p.leaf, p.path) {
		t.Fatalf("%s: %+v: true; want false", about, p)
	}
}

// P11.1, P11.2: the numbers that the chapter names.
func TestNumbers(t *testing.T) {
	if api.MaxLeaves != 64 || api.Prime != prime || api.Base != base || api.Tag != 911 {
		t.Fatal("the numbers of package api are not the document's")
	}
	if api.OK != 0 || api.ErrProofForm != 1100 {
		t.Fatal("the errors of package api are not the document's")
	}
}

// P11.1: the path of one leaf has no number.
func TestPathOfOneLeaf(t *testing.T) {
	for _, leaf := range []int{0, 1, 2, 911, base, 1 << 30, prime - 2, prime - 1} {
		wantPath(t, "P11.1: one leaf", []int{leaf}, 0, nil)
	}
}

// P11.1: paths of up to nine leaves, paired one by one as the chapter tells.
func TestPathsPairByPair(t *testing.T) {
	const a, b, c, d, e, f, g, h, i = 3, 14, 159, 2653, 58979, 323846, 2643383, 27950288, 2147483646
	p := pairOf
	abcd, efgh := p(p(a, b), p(c, d)), p(p(e, f), p(g, h))
	for _, row := range []struct {
		leaves []int
		paths  [][]int
	}{
		{[]int{a}, [][]int{{}}},
		{[]int{a, b}, [][]int{{b}, {a}}},
		{[]int{a, b, c}, [][]int{{b, c}, {a, c}, {p(a, b)}}},
		{[]int{a, b, c, d}, [][]int{{b, p(c, d)}, {a, p(c, d)}, {d, p(a, b)}, {c, p(a, b)}}},
		{[]int{a, b, c, d, e}, [][]int{{b, p(c, d), e}, {a, p(c, d), e}, {d, p(a, b), e}, {c, p(a, b), e}, {abcd}}},
		{[]int{a, b, c, d, e, f}, [][]int{
			{b, p(c, d), p(e, f)}, {a, p(c, d), p(e, f)}, {d, p(a, b), p(e, f)}, {c, p(a, b), p(e, f)},
			{f, abcd}, {e, abcd},
		}},
		{[]int{a, b, c, d, e, f, g}, [][]int{
			{b, p(c, d), p(p(e, f), g)}, {a, p(c, d), p(p(e, f), g)}, {d, p(a, b), p(p(e, f), g)}, {c, p(a, b), p(p(e, f), g)},
			{f, g, abcd}, {e, g, abcd}, {p(e, f), abcd},
		}},
		{[]int{a, b, c, d, e, f, g, h}, [][]int{
			{b, p(c, d), efgh}, {a, p(c, d), efgh}, {d, p(a, b), efgh}, {c, p(a, b), efgh},
			{f, p(g, h), abcd}, {e, p(g, h), abcd}, {h, p(e, f), abcd}, {g, p(e, f), abcd},
		}},
		{[]int{a, b, c, d, e, f, g, h, i}, [][]int{
			{b, p(c, d), efgh, i}, {a, p(c, d), efgh, i}, {d, p(a, b), efgh, i}, {c, p(a, b), efgh, i},
			{f, p(g, h), abcd, i}, {e, p(g, h), abcd, i}, {h, p(e, f), abcd, i}, {g, p(e, f), abcd, i}, {p(abcd, efgh)},
		}},
	} {
		for at, want := range row.paths {
			wantPath(t, "P11.1: pair by pair", row.leaves, at, want)
			wantTrue(t, "P11.2: pair by pair", proven{rootOf(row.leaves), len(row.leaves), at, row.leaves[at], want})
		}
	}
}

// P11.1, P11.2: paths and roots written out, of leaves from 0 on: worked out by a script apart from the program.
func TestKnownPaths(t *testing.T) {
	for _, row := range []struct {
		count, at int
		path      []int
		root      int
	}{
		{2, 0, []int{1}, 131986},
		{2, 1, []int{0}, 131986},
		{3, 0, []int{1, 2}, 60294955},
		{3, 2, []int{131986}, 60294955},
		{7, 0, []int{1, 525210, 62654303}, 920997999},
		{7, 3, []int{2, 131986, 62654303}, 920997999},
		{7, 4, []int{5, 6, 182456851}, 920997999},
		{7, 5, []int{4, 6, 182456851}, 920997999},
		{7, 6, []int{918434, 182456851}, 920997999},
		{8, 5, []int{4, 1311658, 182456851}, 1676251187},
		{9, 0, []int{1, 525210, 188748443, 8}, 1949129645},
		{9, 8, []int{1676251187}, 1949129645},
		{33, 31, []int{30, 5637122, 220206403, 1883873715, 1683082967, 32}, 841975344},
		{33, 32, []int{1347543453}, 841975344},
		{63, 62, []int{11928706, 270539139, 151635124, 810741593, 1347543453}, 518289606},
		{63, 32, []int{33, 6816794, 239081179, 47823860, 550858595, 1347543453}, 518289606},
		{64, 0, []int{1, 525210, 188748443, 1780062451, 1246912280, 1641753514}, 785813565},
		{64, 31, []int{30, 5637122, 220206403, 1883873715, 1683082967, 1641753514}, 785813565},
		{64, 32, []int{33, 6816794, 239081179, 47823860, 374570906, 1347543453}, 785813565},
		{64, 63, []int{62, 11928706, 270539139, 151635124, 810741593, 1347543453}, 785813565},
	} {
		wantPath(t, "P11.1: written out", rising(row.count), row.at, row.path)
		wantTrue(t, "P11.2: written out", proven{row.root, row.count, row.at, row.at, row.path})
	}
}

// P11.1, P11.2: paths of the blocks of a shard, written out.
func TestPathsOfShard(t *testing.T) {
	all := tree.Leaves("bone dust, ash and dust to bones")
	for at, want := range [][]int{{1642086214, 358033176}, {777563002, 358033176}, {769632972, 2114015503}, {897974425, 2114015503}} {
		wantPath(t, "P11.1: a shard", all, at, want)
		wantTrue(t, "P11.2: a shard", proven{1564941126, 4, at, all[at], want})
	}
}

// P11.1, P11.2: each number of leaves at each place, by chance, of both ends, and alike.
func TestEachPath(t *testing.T) {
	for count := 1; count <= api.MaxLeaves; count++ {
		ends := leaves(-count, count)
		for i := range ends {
			ends[i] = ends[i] % 2 * (prime - 1)
		}
		for _, all := range [][]int{leaves(count, count), leaves(count+100, count), ends, alike(0, count), alike(prime-1, count)} {
			for at := range all {
				wantPath(t, "P11.1: each path", all, at, pathOf(all, at))
				wantTrue(t, "P11.2: each path", right(all, at))
			}
		}
	}
}

// P11.2: Check takes what Path answers of the root that layer 10 tells.
func TestPathLeadsToRoot(t *testing.T) {
	for count := 1; count <= api.MaxLeaves; count++ {
		all := leaves(count, count)
		root, _ := tree.Root(all)
		for at, leaf := range all {
			path, _ := Path(all, at)
			wantTrue(t, "P11.2: its own path", proven{root, count, at, leaf, path})
		}
	}
}

// P11.1: the leaf itself stands in no number of its path: another one has the same.
func TestPathWithoutItsLeaf(t *testing.T) {
	each(func(p proven) {
		all := leaves(p.count, p.count)
		wantPath(t, "P11.1: another leaf", with(all, p.at, (p.leaf+911)%prime), p.at, p.path)
	})
}

// P11.1: no leaf, as nil, as an empty list, and as one with spare room.
func TestPathOfNoLeaves(t *testing.T) {
	for _, at := range []int{0, 1, -1, 64, math.MaxInt, math.MinInt} {
		wantForm(t, "P11.1: nil", nil, at)
		wantForm(t, "P11.1: empty", []int{}, at)
		wantForm(t, "P11.1: empty, spare room", rising(9)[:0], at)
	}
}

// P11.1: more than MaxLeaves, whatever they are and wherever one asks.
func TestPathOfManyLeaves(t *testing.T) {
	for _, count := range []int{65, 66, 96, 127, 128, 129, 256, 320, 4096, 1<<16 + 1, 1 << 20} {
		for _, at := range []int{0, 1, 63, 64, count - 1, count, -1} {
			wantForm(t, "P11.1: too many", alike(1, count), at)
			wantForm(t, "P11.1: too many, and outside", alike(-1, count), at)
		}
	}
}

// P11.1: a leaf outside, at each place, wherever one asks: at it, ahead of it, behind it.
func TestPathOfLeafOutside(t *testing.T) {
	for count := 1; count <= api.MaxLeaves; count++ {
		all := leaves(count, count)
		for i := range all {
			for _, outside := range outsides() {
				turned := with(all, i, outside)
				for _, at := range []int{i, 0, count / 2, count - 1, i ^ 1, -1, count} {
					wantForm(t, "P11.1: one outside", turned, at)
				}
			}
		}
	}
	for _, outside := range outsides() {
		wantForm(t, "P11.1: one leaf, outside", []int{outside}, 0)
		wantForm(t, "P11.1: all outside", alike(outside, 9), 4)
	}
}

// P11.1: a place that is none: negative, the number of leaves, greater.
func TestPathOfNoPlace(t *testing.T) {
	for count := 1; count <= api.MaxLeaves; count++ {
		all := leaves(count, count+20)[:count]
		for _, at := range []int{-1, -2, -count, -64, math.MinInt, count, count + 1, count + 19, count + 64, 1 << 31, 1 << 32, math.MaxInt} {
			wantForm(t, "P11.1: no such leaf", all, at)
		}
		wantForm(t, "P11.1: no such leaf", all, 1<<32+count-1)
		wantForm(t, "P11.1: no such leaf", all, math.MinInt+count-1)
	}
}

// P11.2: a path that is nil and one that is empty are one, and lead from one leaf to itself alone.
func TestCheckOfNoPath(t *testing.T) {
	for _, path := range [][]int{nil, {}, rising(9)[:0]} {
		for _, leaf := range []int{0, 1, 2, 911, base, 1 << 30, prime - 2, prime - 1} {
			wantTrue(t, "P11.2: one leaf", proven{leaf, 1, 0, leaf, path})
			for _, step := range turns(leaf) {
				wantFalse(t, "P11.2: one leaf, another root", proven{(leaf + step) % prime, 1, 0, leaf, path})
			}
		}
		for count := 2; count <= api.MaxLeaves; count++ {
			p := right(alike(7, count), count-1)
			wantFalse(t, "P11.2: no path", proven{p.root, count, p.at, p.leaf, path})
			wantFalse(t, "P11.2: no path, the leaf as root", proven{7, count, p.at, p.leaf, path})
		}
	}
}

// P11.2: another root, those from outside that are one with it modulo Prime among them.
func TestCheckOfAnotherRoot(t *testing.T) {
	each(func(p proven) {
		root := p.root
		for _, step := range turns(p.at) {
			p.root = (root + step) % prime
			wantFalse(t, "P11.2: another root", p)
		}
		for _, p.root = range append(outsides(), root+prime, root-prime, root+2*prime, root^1<<31, root|1<<32, -root-1) {
			wantFalse(t, "P11.2: a root outside", p)
		}
	})
}

// P11.2: another leaf, those from outside that are one with it modulo Prime among them.
func TestCheckOfAnotherLeaf(t *testing.T) {
	each(func(p proven) {
		leaf := p.leaf
		for _, step := range turns(p.at) {
			p.leaf = (leaf + step) % prime
			wantFalse(t, "P11.2: another leaf", p)
		}
		for _, p.leaf = range append(outsides(), leaf+prime, leaf-prime, leaf+2*prime) {
			wantFalse(t, "P11.2: a leaf outside", p)
		}
	})
}

// P11.2: one leaf that is outside leads nowhere, though it is its own root.
func TestCheckOfOneLeafOutside(t *testing.T) {
	for _, outside := range outsides() {
		wantFalse(t, "P11.2: one leaf, outside", proven{outside, 1, 0, outside, nil})
	}
}

// P11.2: another number of the path, at each place, those from outside that are one with it modulo Prime among them.
func TestCheckOfAnotherNumber(t *testing.T) {
	each(func(p proven) {
		path := p.path
		for i, number := range path {
			for _, step := range turns(i) {
				p.path = with(path, i, (number+step)%prime)
				wantFalse(t, "P11.2: another number", p)
			}
			for _, outside := range append(outsides(), number+prime, number-prime, number+2*prime) {
				p.path = with(path, i, outside)
				wantFalse(t, "P11.2: a number outside", p)
			}
		}
	})
}

// P11.2: 0 and Prime - 1 are right as a leaf and as numbers of a path, where 2 * Prime - 1, Prime and -1 are not.
func TestCheckOfEnds(t *testing.T) {
	for count := 2; count <= api.MaxLeaves; count++ {
		for at := range count {
			for _, end := range []int{0, prime - 1} {
				p := right(with(leaves(count, count), at, end), at)
				wantTrue(t, "P11.2: an end as a leaf", p)
				p.path = alike(end, len(p.path))
				p.root, _ = follow(p)
				wantTrue(t, "P11.2: ends as a path", p)
				for i := range p.path {
					wrong := p
					wrong.path = with(p.path, i, end+prime)
					wantFalse(t, "P11.2: an end and Prime more", wrong)
					wrong.path = with(p.path, i, end-prime)
					wantFalse(t, "P11.2: an end and Prime less", wrong)
				}
			}
		}
	}
}

// P11.2: a path that is one number or more shorter or longer, at either end, whatever the number is.
func TestCheckOfAnotherLength(t *testing.T) {
	each(func(p proven) {
		path := p.path
		for length := range path {
			p.path = path[:length]
			wantFalse(t, "P11.2: shorter", p)
			p.path = path[len(path)-length:]
			wantFalse(t, "P11.2: shorter, at the first", p)
			p.path = slices.Delete(slices.Clone(path), length, length+1)
			wantFalse(t, "P11.2: one left out", p)
		}
		for _, more := range []int{0, 1, p.leaf, p.root, prime - 1, -1, prime} {
			p.path = append(slices.Clone(path), more)
			wantFalse(t, "P11.2: longer", p)
			p.path = append([]int{more}, path...)
			wantFalse(t, "P11.2: longer, at the first", p)
		}
		for _, count := range []int{7, 64, 65, 1 << 16} {
			p.path = append(slices.Clone(path), alike(0, count)...)
			wantFalse(t, "P11.2: far longer", p)
		}
	})
}

// P11.2: a path that is longer is none, even where what it leads to is asked for as the root.
func TestCheckOfLongerPathToItsEnd(t *testing.T) {
	each(func(p proven) {
		path, root := p.path, p.root
		for _, more := range []int{0, 1, prime - 1} {
			p.path = append(slices.Clone(path), more)
			for _, p.root = range []int{pairOf(root, more), pairOf(more, root)} {
				wantFalse(t, "P11.2: longer, to its end", p)
			}
			p.path = append([]int{more}, path...)
			lower := p
			lower.path = path
			for _, lower.leaf = range []int{pairOf(p.leaf, more), pairOf(more, p.leaf)} {
				p.root, _ = follow(lower)
				wantFalse(t, "P11.2: longer at the first, to its end", p)
			}
		}
	})
}

// P11.2: a path that is shorter is none, even where what it leads to is asked for as the root.
func TestCheckOfShorterPathToItsEnd(t *testing.T) {
	each(func(p proven) {
		path := p.path
		for length := range path {
			p.path = path[:length]
			p.root, _ = follow(p)
			wantFalse(t, "P11.2: shorter, to its end", p)
		}
	})
}

// P11.2: a number of leaves that is outside, whatever else is right.
func TestCheckOfCountOutside(t *testing.T) {
	each(func(p proven) {
		count := p.count
		for _, p.count = range []int{0, -1, -count, 65, 66, 128, 64 + count, 1 << 31, 1 << 32, 1<<32 + count, math.MinInt + count, math.MinInt, math.MaxInt - 1, math.MaxInt} {
			wantFalse(t, "P11.2: a number of leaves outside", p)
		}
	})
	for _, at := range []int{0, 63, 64} {
		p := right(leaves(1, 65), at)
		wantFalse(t, "P11.2: 65 leaves", p)
	}
	for _, at := range []int{0, 1, 64, math.MaxInt - 1} {
		for length := range 66 {
			wantFalse(t, "P11.2: most leaves", proven{0, math.MaxInt, at, 0, alike(0, length)})
		}
	}
}

// P11.2: a place that is outside, whatever else is right.
func TestCheckOfPlaceOutside(t *testing.T) {
	each(func(p proven) {
		at, count := p.at, p.count
		for _, p.at = range []int{-1, -2, -count, at - count, at - 64, count, count + 1, at + count, at + 64, 1 << 31, 1 << 32, 1<<32 + at, math.MinInt + at, math.MinInt, math.MaxInt} {
			wantFalse(t, "P11.2: a place outside", p)
		}
	})
}

// P11.2: another place within is another question: of the right path it is false.
func TestCheckOfAnotherPlace(t *testing.T) {
	each(func(p proven) {
		at := p.at
		for p.at = range p.count {
			if p.at != at {
				wantFalse(t, "P11.2: another place", p)
			}
		}
	})
}

// P11.2: of another number of leaves a path is right just where the pairs above the leaf are the same.
func TestCheckOfAnotherCount(t *testing.T) {
	taken := 0
	each(func(p proven) {
		for p.count = 1; p.count <= api.MaxLeaves; p.count++ {
			for _, p.at = range []int{p.at, p.at ^ 1, p.at / 2, p.count - 1} {
				root, ends := follow(p)
				want := p.at < p.count && ends && root == p.root
				if got := Check(p.root, p.count, p.at, p.leaf, p.path); got != want {
					t.Fatalf("P11.2: another number of leaves: %+v: %v; want %v", p, got, want)
				}
				if want {
					taken++
				}
			}
		}
	})
	if taken == 0 {
		t.Fatal("P11.2: no path was taken")
	}
	p := right(rising(5), 0)
	for p.count = 5; p.count <= 8; p.count++ {
		wantTrue(t, "P11.2: the first of five to eight leaves", p)
	}
}

// P11.2: which side is the first counts: a path of which the sides are turned round is false.
func TestCheckOfSidesTurnedRound(t *testing.T) {
	for count := 2; count <= api.MaxLeaves; count *= 2 {
		all := leaves(count, count)
		for at := range all {
			p := right(all, at)
			p.at = count - 1 - at
			wantFalse(t, "P11.2: turned round", p)
		}
	}
	wantTrue(t, "P11.2: two leaves", proven{pairOf(1, 2), 2, 0, 1, []int{2}})
	wantTrue(t, "P11.2: two leaves", proven{pairOf(1, 2), 2, 1, 2, []int{1}})
	wantFalse(t, "P11.2: two leaves, turned round", proven{pairOf(1, 2), 2, 1, 1, []int{2}})
	wantFalse(t, "P11.2: two leaves, turned round", proven{pairOf(1, 2), 2, 0, 2, []int{1}})
}

// P11.2: numbers of a path that have changed places lead to another root, where they are unlike.
func TestCheckOfChangedPath(t *testing.T) {
	each(func(p proven) {
		path := p.path
		for i := range path {
			for j := range i {
				p.path = with(with(path, i, path[j]), j, path[i])
				root, _ := follow(p)
				if got := Check(p.root, p.count, p.at, p.leaf, p.path); got != (root == p.root) {
					t.Fatalf("P11.2: %d and %d have changed places: %+v: %v", j, i, p, got)
				}
				p.path = with(path, i, path[j])
				wantFalse(t, "P11.2: one twice", p)
			}
		}
	})
}

// P11.2: questions by chance, of small numbers too, whose right root is asked for, and the one beside it.
func TestManyQuestions(t *testing.T) {
	next := sample.Numbers(5)
	for range 100000 {
		p := proven{count: 1 + next()%api.MaxLeaves, leaf: next() % prime, path: make([]int, next()%8)}
		p.at = next() % p.count
		for i := range p.path {
			p.path[i] = next() >> (next() % 32) % prime
		}
		root, ends := follow(p)
		p.root = root
		if got := Check(p.root, p.count, p.at, p.leaf, p.path); got != ends {
			t.Fatalf("P11.2: by chance: %+v: %v; want %v", p, got, ends)
		}
		p.root = root + 1
		wantFalse(t, "P11.2: by chance, the root beside", p)
	}
}

// R1: a path of very many numbers is told to be wrong, and the call ends.
func TestCheckOfVeryLongPath(t *testing.T) {
	path := alike(1, 1<<20)
	for _, count := range []int{1, 2, 64, 65, math.MaxInt} {
		wantFalse(t, "R1: a very long path", proven{1, count, 0, 1, path})
	}
}

// wantPathStays asks Path about the first count of room, and then whether all of room is as it was.
func wantPathStays(t *testing.T, room []int, count, at int) {
	t.Helper()
	as := slices.Clone(room)
	Path(room[:count], at)
	if !slices.Equal(room, as) {
		t.Fatalf("R4: %d of %d leaves: %v; before %v", at, count, room, as)
	}
}

// R4: leaves that are handed in are as they were, their spare room too, whether they are taken or refused.
func TestLeavesStay(t *testing.T) {
	for count := range api.MaxLeaves + 5 {
		room := leaves(count, count+20)
		for at := -1; at <= count; at++ {
			wantPathStays(t, room, count, at)
		}
		for at := range count {
			wantPathStays(t, with(room, at, -1), count, at)
			wantPathStays(t, with(room, at, prime), count, count/2)
		}
	}
}

// R4: a path that is handed in is as it was, its spare room too, whether it is taken or not.
func TestHandedInPathStays(t *testing.T) {
	each(func(p proven) {
		room := append(slices.Clone(p.path), 5, -6, prime, 7)
		as := slices.Clone(room)
		for length := range len(room) + 1 {
			p.path = room[:length]
			Check(p.root, p.count, p.at, p.leaf, p.path)
			Check(p.root+1, p.count, p.at, p.leaf, p.path)
			Check(p.root, p.count+1, p.at, -1, p.path)
		}
		if !slices.Equal(room, as) {
			t.Fatalf("R4: %+v: %v; before %v", p, room, as)
		}
	})
}

// overwrite writes over all of row, its spare room too.
func overwrite(row []int) {
	row = row[:cap(row)]
	for i := range row {
		row[i] = -i - 1
	}
}

// R4: what Path answers shares no memory, its spare room neither, with another answer nor with what was handed in.
func TestAnswersApart(t *testing.T) {
	for count := 1; count <= api.MaxLeaves; count++ {
		room := leaves(count, count+20)
		all, as := room[:count], slices.Clone(room)
		for at := range all {
			want := pathOf(all, at)
			answer, _ := Path(all, at)
			again, _ := Path(all, at)
			other, _ := Path(all, count-1-at)
			overwrite(answer)
			if !slices.Equal(again, want) || !slices.Equal(other, pathOf(all, count-1-at)) || !slices.Equal(room, as) {
				t.Fatalf("R4: %d of %d: %v, %v and %v, behind an answer that was written over", at, count, again, other, room)
			}
			wantPath(t, "R4: asked behind one that was written over", all, at, want)
		}
	}
}

// R4: leaves that are written over behind a call don't turn what it answered, and are not kept.
func TestLeavesNotKept(t *testing.T) {
	for count := 1; count <= api.MaxLeaves; count++ {
		for at := range count {
			all, other := leaves(count, count), leaves(-count, count)
			want, wantOther := pathOf(all, at), pathOf(other, at)
			answer, _ := Path(all, at)
			copy(all, other)
			wantPath(t, "R4: written over", all, at, wantOther)
			overwrite(all)
			if !slices.Equal(answer, want) {
				t.Fatalf("R4: %d of %d: %v, behind leaves that were written over; want %v", at, count, answer, want)
			}
		}
	}
}

// R4: Check keeps no path: one that is written over behind it counts as it is then.
func TestPathNotKept(t *testing.T) {
	each(func(p proven) {
		as := slices.Clone(p.path)
		wantTrue(t, "R4: before", p)
		for i := range p.path {
			p.path[i] = (as[i] + 1) % prime
			wantFalse(t, "R4: written over", p)
			p.path[i] = as[i]
		}
		wantTrue(t, "R4: written back", p)
	})
}

// R5: the same again, whatever was asked between.
func TestAskedAgain(t *testing.T) {
	for count := 1; count <= api.MaxLeaves; count++ {
		all := leaves(count, count)
		for at := range all {
			p := right(all, at)
			wrong := p
			wrong.root = (p.root + 1) % prime
			for other := range 5 {
				Path(leaves(other, other+1), other)
				wantForm(t, "R5: between", with(all, at, -1), at)
				wantForm(t, "R5: between", all, count)
				wantPath(t, "R5: asked again", all, at, p.path)
				wantFalse(t, "R5: asked again", wrong)
				wantTrue(t, "R5: asked again", p)
			}
		}
	}
}

// R5: the same of leaves and of a path that lie within others, whatever stands about them.
func TestWithinOthers(t *testing.T) {
	long := leaves(3, 90)
	long[0], long[89] = -1, prime
	for count := 1; count <= api.MaxLeaves; count++ {
		for from := 1; from < 25; from += 5 {
			all := long[from : from+count]
			at := from * 7 % count
			p := right(slices.Clone(all), at)
			wantPath(t, "R5: within others", all, at, p.path)
			p.path = slices.Concat([]int{-1}, p.path, []int{prime})[1 : len(p.path)+1]
			wantTrue(t, "R5: within others", p)
		}
	}
}

// R5: the same from several goroutines at one time, of one row of leaves and of one path.
func TestAtOneTime(t *testing.T) {
	all := leaves(7, api.MaxLeaves)
	p := right(all, 37)
	wrong := p
	wrong.leaf = (p.leaf + 1) % prime
	var group sync.WaitGroup
	for range 8 {
		group.Go(func() {
			for range 200 {
				if got, err := Path(all, p.at); !slices.Equal(got, p.path) || err != api.OK {
					t.Errorf("R5: Path: %v, %d; want %v", got, err, p.path)
				}
				if !Check(p.root, p.count, p.at, p.leaf, p.path) || Check(wrong.root, wrong.count, wrong.at, wrong.leaf, wrong.path) {
					t.Error("R5: Check: not as when asked alone")
				}
			}
		})
	}
	group.Wait()
}
