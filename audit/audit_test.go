package audit

import (
	"errors"
	"math"
	"reflect"
	"slices"
	"strings"
	"sync"
	"testing"
	"unsafe"

	"ossuary/api"
	"ossuary/sample"
)

const (
	prime = 2147483647
	base  = 65537
)

// sealOf works a text's seal out apart from the program: from the first byte on, with a power of its own for each place.
func sealOf(s string) int {
	total, power := uint64(0), uint64(1)
	for i := range len(s) {
		power = power * base % prime
		total = (total + power*(uint64(s[i])+1)) % prime
	}
	return int(total)
}

// pairOf works the seal of two numbers from 0 below Prime out apart from the program: 64 bits without a sign hold all of it.
func pairOf(a, b int) int {
	return int((911 + uint64(a)*base + uint64(b)*base*base) % prime)
}

// leavesOf works a shard's four leaves out apart from the program.
func leavesOf(s string) []int {
	return []int{sealOf(s[0:8]), sealOf(s[8:16]), sealOf(s[16:24]), sealOf(s[24:32])}
}

// upOf pairs neighbours, apart from the program; one that has none goes up as it is.
func upOf(leaves []int) (up []int) {
	for side := range slices.Chunk(leaves, 2) {
		if len(side) == 2 {
			side = []int{pairOf(side[0], side[1])}
		}
		up = append(up, side[0])
	}
	return up
}

// rootOf works a root out apart from the program, from the leaves up.
func rootOf(leaves []int) int {
	for len(leaves) > 1 {
		leaves = upOf(leaves)
	}
	return leaves[0]
}

// pathOf works a path out apart from the program, from the leaf up: its neighbour on each floor, if it has one.
func pathOf(leaves []int, at int) (path []int) {
	for ; len(leaves) > 1; leaves, at = upOf(leaves), at/2 {
		if at^1 < len(leaves) {
			path = append(path, leaves[at^1])
		}
	}
	return path
}

// answersOf works answers out apart from the program: of each block the path in its shard, then the shard's own.
func answersOf(s string, path []int, a api.Ask) (answers []api.Answer) {
	leaves := leavesOf(s)
	for _, block := range a.Blocks {
		answers = append(answers, api.Answer{
			Block: s[8*block : 8*block+8],
			Path:  append(pathOf(leaves, block), path...),
			Keyed: pairOf(a.Nonce, leaves[block]),
		})
	}
	return answers
}

// row makes count numbers from 0 below a bound, unlike from seed to seed.
func row(seed, count, below int) []int {
	next := sample.Numbers(seed)
	all := make([]int, count)
	for i := range all {
		all[i] = next() % below
	}
	return all
}

func alike(number, count int) []int { return slices.Repeat([]int{number}, count) }

// with is all with other at its place.
func with(all []int, at, other int) []int {
	out := slices.Clone(all)
	out[at] = other
	return out
}

// ask makes a question of count blocks, unlike from seed to seed.
func ask(seed, count int) api.Ask {
	return api.Ask{Nonce: sample.Numbers(seed)() % prime, Blocks: row(seed+1, count, 4)}
}

// outsides tells numbers that no nonce may be, nor a number of a path.
func outsides() []int {
	return []int{
		-1, -2, -911, -prime, -prime - 1, -1 << 31, -1 << 32, math.MinInt, math.MinInt + 1,
		prime, prime + 1, prime + 911, 2 * prime, 1 << 32, 1<<32 + 1, math.MaxInt - 1, math.MaxInt,
	}
}

// noBlocks tells numbers that no block has.
func noBlocks() []int {
	return []int{-1, -2, -4, -32, math.MinInt, math.MinInt + 1, 4, 5, 7, 8, 31, 32, 64, 1 << 32, 1 << 61, 1 << 62, math.MaxInt}
}

// turns tells how far a number may be turned so that it is another one below Prime.
func turns(seed int) []int {
	return []int{1, 2, 911, base, 1 << 30, prime - 2, prime - 1, sample.Numbers(seed)()%(prime-1) + 1}
}

// audited is a question of Check, and what who has the shard would answer it by.
type audited struct {
	root, shards, shard int
	ask                 api.Ask
	answers             []api.Answer
	text                string
	path                []int
}

// right makes one that holds, apart from the program.
func right(texts []string, shard int, a api.Ask) audited {
	var roots []int
	for _, s := range texts {
		roots = append(roots, rootOf(leavesOf(s)))
	}
	text, path := texts[shard], pathOf(roots, shard)
	return audited{rootOf(roots), len(texts), shard, a, answersOf(text, path, a), text, path}
}

// texts makes count shards, unlike from seed to seed.
func texts(seed, count int) (all []string) {
	for i := range count {
		all = append(all, sample.Text(100*seed+i, 32))
	}
	return all
}

// each calls do with right questions of each number of shards at each place: of all blocks, and of one to five by chance.
func each(do func(p audited)) {
	for count := 1; count <= 6; count++ {
		all := texts(count, count)
		for shard := range all {
			do(right(all, shard, api.Ask{Nonce: 911 + shard, Blocks: []int{2, 0, 3, 1}}))
			do(right(all, shard, ask(10*count+shard, 1+(count+shard)%5)))
		}
	}
}

// answerOther is the question whose answer at its place is another one, made by turn out of the right one.
func (p audited) answerOther(at int, turn func(x *api.Answer)) audited {
	p.answers = slices.Clone(p.answers)
	p.answers[at].Path = slices.Clone(p.answers[at].Path)
	turn(&p.answers[at])
	return p
}

func wantAnswers(t *testing.T, about, s string, path []int, a api.Ask, want []api.Answer) {
	t.Helper()
	if got, err := Respond(s, path, a); !reflect.DeepEqual(got, want) || err != api.OK {
		t.Fatalf("%s: %q, %v, %#v: %#v, %d; want %#v, %d", about, s, path, a, got, err, want, api.OK)
	}
}

func wantForm(t *testing.T, about, s string, path []int, a api.Ask) {
	t.Helper()
	if got, err := Respond(s, path, a); len(got) != 0 || err != api.ErrAuditForm {
		t.Fatalf("%s: %d bytes, %v, %#v: %#v, %d; want none, %d", about, len(s), path, a, got, err, api.ErrAuditForm)
	}
}

func wantTrue(t *testing.T, about string, p audited) {
	t.Helper()
	if !Check(p.root, p.shards, p.shard, p.ask, p.answers) {
		t.Fatalf("%s: %#v: false; want true", about, p)
	}
}

func wantFalse(t *testing.T, about string, p audited) {
	t.Helper()
	if Check(p.root, p.shards, p.shard, p.ask, p.answers) {
		t.Fatalf("%s: %#v: true; want false", about, p)
	}
}

// wantFalseOther asks about each answer, made another one by turn.
func wantFalseOther(t *testing.T, about string, p audited, turn func(x *api.Answer)) {
	t.Helper()
	for at := range p.answers {
		wantFalse(t, about, p.answerOther(at, turn))
	}
}

// P12.1, P12.2: the numbers that the chapter names.
func TestNumbers(t *testing.T) {
	if api.Shard != 32 || api.Block != 8 || api.Blocks != 4 || api.MaxPath != 3 || api.MaxLeaves != 64 || api.MaxDisks != 6 || api.Prime != prime {
		t.Fatal("the numbers of package api are not the document's")
	}
	if api.OK != 0 || api.ErrAuditForm != 1200 {
		t.Fatal("the errors of package api are not the document's")
	}
}

// knownShards are those of which the written-out answers tell.
func knownShards() []string {
	rising, falling := make([]byte, 32), make([]byte, 32)
	for i := range 32 {
		rising[i], falling[i] = byte(i), byte(255-i)
	}
	return []string{
		"bone dust, ash and dust to bones", strings.Repeat("\x00", 32), strings.Repeat("\xff", 32),
		string(rising), string(falling), "骨と灰と塵と版と数と!?",
	}
}

// P12.1, P12.2: answers written out, worked out by a script apart from the program.
func TestKnownAnswers(t *testing.T) {
	all := knownShards()
	for _, known := range []struct {
		shards, shard, root, nonce, block int
		path                              []int
		keyed                             int
	}{
		{1, 0, 1564941126, 0, 0, []int{1642086214, 358033176}, 1644085088},
		{1, 0, 1564941126, 0, 1, []int{777563002, 358033176}, 607013092},
		{1, 0, 1564941126, 0, 2, []int{769632972, 2114015503}, 566549363},
		{1, 0, 1564941126, 0, 3, []int{897974425, 2114015503}, 1597487986},
		{2, 1, 1889610705, 1, 0, []int{45614040, 375923519, 1564941126}, 265886200},
		{2, 1, 1889610705, 1, 3, []int{45614040, 375923519, 1564941126}, 265886200},
		{3, 0, 1443023137, 5, 2, []int{769632972, 2114015503, 1130239740, 1001538364}, 566877048},
		{3, 2, 1443023137, 2147483646, 1, []int{939776005, 1746908091, 1889610705}, 1477798829},
		{4, 3, 1926998505, 911, 0, []int{697842384, 148085028, 1001538364, 1889610705}, 2000136878},
		{4, 3, 1926998505, 911, 2, []int{1427667024, 575774241, 1001538364, 1889610705}, 1958285616},
		{5, 3, 2091575834, 1073741824, 2, []int{1427667024, 575774241, 1001538364, 1889610705, 1910146346}, 824872354},
		{5, 4, 2091575834, 65537, 3, []int{2070118988, 1547057369, 1926998505}, 2013643973},
		{6, 0, 925481416, 7, 1, []int{777563002, 358033176, 1130239740, 1353478705, 33294904}, 607471851},
		{6, 3, 925481416, 1234567890, 0, []int{697842384, 148085028, 1001538364, 1889610705, 33294904}, 1074871582},
		{6, 4, 925481416, 2147483646, 2, []int{1705206668, 1547057369, 1699851648, 1926998505}, 1992521730},
		{6, 5, 925481416, 3, 1, []int{898067064, 1253470862, 1910146346, 1926998505}, 1734230833},
		{6, 5, 925481416, 3, 3, []int{1037923942, 123410614, 1910146346, 1926998505}, 376799344},
	} {
		s := all[known.shard]
		a := api.Ask{Nonce: known.nonce, Blocks: []int{known.block}}
		want := []api.Answer{{Block: s[8*known.block:][:8], Path: known.path, Keyed: known.keyed}}
		wantAnswers(t, "P12.1: written out", s, known.path[2:], a, want)
		p := audited{root: known.root, shards: known.shards, shard: known.shard, ask: a, answers: want}
		wantTrue(t, "P12.2: written out", p)
		want[0].Keyed = (known.keyed + 1) % prime
		wantFalse(t, "P12.2: written out, keyed turned", p)
	}
}

// P12.1: questions of one to MaxLeaves blocks, by paths of no number to MaxPath numbers.
func TestRespondOfEachCount(t *testing.T) {
	for count := 1; count <= 64; count++ {
		for length := range 4 {
			seed := 10*count + length
			s, path, a := sample.Text(seed, 32), row(seed, length, prime), ask(seed, count)
			wantAnswers(t, "P12.1: each count", s, path, a, answersOf(s, path, a))
		}
	}
}

// P12.1: each choice of three blocks, in each order, the same one twice and three times too.
func TestRespondOfEachChoice(t *testing.T) {
	s, path := sample.Text(1, 32), row(1, 2, prime)
	for i := range 64 {
		a := api.Ask{Nonce: 5, Blocks: []int{i % 4, i / 4 % 4, i / 16}}
		wantAnswers(t, "P12.1: each choice", s, path, a, answersOf(s, path, a))
	}
	for block := range 4 {
		a := api.Ask{Nonce: 6, Blocks: alike(block, 64)}
		wantAnswers(t, "P12.1: one block all over", s, path, a, answersOf(s, path, a))
	}
}

// P12.1: the least and the greatest nonce, and numbers of a path, that may be.
func TestRespondOfEnds(t *testing.T) {
	s := sample.Text(2, 32)
	for _, number := range []int{0, 1, 2, 911, base, 1 << 30, prime - 2, prime - 1} {
		a := api.Ask{Nonce: number, Blocks: []int{3, 1, 1, 0, 2}}
		for length := range 4 {
			wantAnswers(t, "P12.1: ends", s, alike(number, length), a, answersOf(s, alike(number, length), a))
			for at := range length {
				path := with(alike(prime-1-number, length), at, number)
				wantAnswers(t, "P12.1: ends", s, path, a, answersOf(s, path, a))
			}
		}
	}
}

// P12.1: bytes are bytes, each at its place, whether they are letters or not.
func TestRespondOfEachByte(t *testing.T) {
	a := api.Ask{Nonce: 7, Blocks: []int{0, 1, 2, 3}}
	for b := range 256 {
		s := strings.Repeat(string([]byte{byte(b)}), 32)
		wantAnswers(t, "P12.1: each byte", s, nil, a, answersOf(s, nil, a))
		for at := range 32 {
			turned := s[:at] + string([]byte{byte(b + 1)}) + s[at+1:]
			wantAnswers(t, "P12.1: each byte in its place", turned, nil, a, answersOf(turned, nil, a))
		}
	}
}

// P12.1: a text that has more or fewer bytes than a shard.
func TestRespondOfNoShard(t *testing.T) {
	for _, length := range []int{0, 1, 7, 8, 16, 24, 30, 31, 33, 34, 40, 48, 63, 64, 65, 256, 4096, 1 << 20} {
		for count := range 4 {
			wantForm(t, "P12.1: no shard", sample.Text(length, length), row(1, count, prime), ask(count, count+1))
		}
	}
	for length := range 100 {
		if length != 32 {
			wantForm(t, "P12.1: no shard", sample.Text(length, length), nil, api.Ask{Blocks: []int{0}})
		}
	}
	wantForm(t, "P12.1: letters are not counted", strings.Repeat("ä", 32), nil, api.Ask{Blocks: []int{0}})
}

// P12.1: a path of more than MaxPath numbers.
func TestRespondOfLongPath(t *testing.T) {
	for _, length := range []int{4, 5, 6, 7, 64, 65, 1 << 16} {
		wantForm(t, "P12.1: a long path", sample.Text(1, 32), row(length, length, prime), ask(1, 3))
		wantForm(t, "P12.1: a long path", sample.Text(1, 32), alike(0, length), ask(1, 3))
	}
}

// P12.1: a path with a number from outside, at each place.
func TestRespondOfPathOutside(t *testing.T) {
	for _, number := range outsides() {
		for length := 1; length <= 3; length++ {
			wantForm(t, "P12.1: all outside", sample.Text(1, 32), alike(number, length), ask(1, 3))
			for at := range length {
				wantForm(t, "P12.1: a number outside", sample.Text(1, 32), with(row(at, length, prime), at, number), ask(1, 3))
			}
		}
	}
}

// noAsks tells questions that may not be.
func noAsks() (none []api.Ask) {
	for _, nonce := range outsides() {
		none = append(none, api.Ask{Nonce: nonce, Blocks: []int{0}}, api.Ask{Nonce: nonce, Blocks: []int{3, 2, 1, 0}})
	}
	for _, count := range []int{0, 65, 66, 128, 1 << 16} {
		none = append(none, api.Ask{Nonce: 5, Blocks: row(count, count, 4)}, api.Ask{Nonce: 5, Blocks: alike(0, count)})
	}
	none = append(none, api.Ask{}, api.Ask{Nonce: 5}, api.Ask{Nonce: 5, Blocks: []int{}})
	for _, block := range noBlocks() {
		for _, count := range []int{1, 2, 5, 64} {
			for _, at := range []int{0, count / 2, count - 1} {
				none = append(none, api.Ask{Nonce: 5, Blocks: with(row(count, count, 4), at, block)})
			}
		}
	}
	return none
}

// P12.1: questions that may not be.
func TestRespondOfNoAsk(t *testing.T) {
	for i, a := range noAsks() {
		wantForm(t, "P12.1: no question", sample.Text(i, 32), row(i, i%4, prime), a)
	}
}

// P12.1: several faults at one time are one.
func TestRespondOfSeveralFaults(t *testing.T) {
	for _, a := range noAsks() {
		wantForm(t, "P12.1: several faults", sample.Text(1, 31), []int{-1, prime, 3, 4}, a)
	}
}

// P12.1, P12.2: what is refused says which part of it is, and wraps the error that is answered.
func TestRefusalsWrap(t *testing.T) {
	s, fine := sample.Text(1, 32), api.Ask{Nonce: 5, Blocks: []int{0}}
	for _, c := range []struct {
		err  error
		want string
	}{
		{refuse("", nil, fine), "shard: ossuary: error 1200"},
		{refuse(s, alike(0, 4), fine), "path: ossuary: error 1200"},
		{refuse(s, []int{-1}, fine), "path: ossuary: error 1200"},
		{refuse(s, nil, api.Ask{Nonce: -1, Blocks: []int{0}}), "ask: nonce: ossuary: error 1200"},
		{refuse(s, nil, api.Ask{}), "ask: blocks: ossuary: error 1200"},
		{refuseAsk(api.Ask{Nonce: prime, Blocks: []int{0}}), "nonce: ossuary: error 1200"},
		{refuseAsk(api.Ask{Blocks: []int{4}}), "blocks: ossuary: error 1200"},
	} {
		if c.err == nil || !errors.Is(c.err, api.ErrAuditForm) || c.err.Error() != c.want {
			t.Errorf("refused: %v; want %s", c.err, c.want)
		}
		if errors.Is(c.err, api.ErrProofForm) {
			t.Errorf("refused: %v: another layer's error", c.err)
		}
	}
	if err := refuse(s, alike(0, 3), fine); err != nil {
		t.Errorf("nothing to refuse: %v", err)
	}
}

// P12.2: the answers of who has the shard, at each place of each number of shards.
func TestCheckOfWhoHasIt(t *testing.T) {
	each(func(p audited) {
		wantTrue(t, "P12.2: has it", p)
		for at := range p.answers {
			p.answers[at].Path = append(make([]int, 0, 20), p.answers[at].Path...)
		}
		wantTrue(t, "P12.2: has it, spare room behind the paths", p)
	})
}

// P12.2: what Respond answers, by a path of layer 11's kind, is taken, of one to MaxLeaves blocks.
func TestCheckOfRespond(t *testing.T) {
	for count := 1; count <= 6; count++ {
		all := texts(count+10, count)
		for shard, s := range all {
			for blocks := 1; blocks <= 64; blocks++ {
				p := right(all, shard, ask(100*count+10*shard+blocks, blocks))
				answers, err := Respond(s, p.path, p.ask)
				p.answers = answers
				wantTrue(t, "P12.2: what Respond answers", p)
				if err != api.OK {
					t.Fatalf("P12.1: %#v: %d", p, err)
				}
			}
		}
	}
}

// P12.2: the least and the greatest nonce that may be.
func TestCheckOfNonceEnds(t *testing.T) {
	for _, nonce := range []int{0, 1, 2, 911, base, 1 << 30, prime - 2, prime - 1} {
		wantTrue(t, "P12.2: nonce", right(texts(1, 6), 4, api.Ask{Nonce: nonce, Blocks: []int{2, 2, 0}}))
	}
}

// P12.2: shards that are alike, and blocks, each stand at their place; one may stand for the other where all is alike.
func TestCheckOfAlikeShards(t *testing.T) {
	s := strings.Repeat("dustdust", 4)
	for count := 1; count <= 6; count++ {
		all := slices.Repeat([]string{s}, count)
		for shard := range all {
			p := right(all, shard, api.Ask{Nonce: 8, Blocks: []int{0, 1, 2, 3}})
			wantTrue(t, "P12.2: alike", p)
			p.ask.Blocks = []int{3, 3, 0, 1}
			wantTrue(t, "P12.2: alike, other blocks", p)
		}
	}
}

// P12.2: a question that may not be, whatever is answered.
func TestCheckOfNoAsk(t *testing.T) {
	for _, a := range noAsks() {
		p := right(texts(2, 3), 1, api.Ask{Nonce: 5, Blocks: []int{0}})
		one := p.answers[0]
		p.ask, p.answers = a, nil
		wantFalse(t, "P12.2: no question, no answers", p)
		p.answers = slices.Repeat([]api.Answer{one}, len(a.Blocks))
		wantFalse(t, "P12.2: no question", p)
	}
	wantFalse(t, "P12.2: nothing", audited{})
}

// P12.2: a nonce from outside is none, even where the keyed seal would be the same modulo Prime.
func TestCheckOfNonceOutside(t *testing.T) {
	each(func(p audited) {
		nonce := p.ask.Nonce
		for _, p.ask.Nonce = range []int{nonce + prime, nonce - prime, nonce + 2*prime, nonce - 2*prime} {
			wantFalse(t, "P12.2: nonce outside", p)
		}
	})
}

// P12.2: more blocks than MaxLeaves, or none, with answers that are right.
func TestCheckOfTooManyBlocks(t *testing.T) {
	all := texts(3, 4)
	for _, count := range []int{63, 64} {
		wantTrue(t, "P12.2: as many as may be", right(all, 2, ask(1, count)))
	}
	for _, count := range []int{0, 65, 66, 128} {
		wantFalse(t, "P12.2: too many, or none", right(all, 2, ask(1, count)))
	}
}

// P12.2: a block of another shard, called by a number that this shard has no block of.
func TestCheckOfBlockOfNeighbour(t *testing.T) {
	for count := 2; count <= 6; count++ {
		all := texts(count, count)
		for shard := range all {
			p := right(all, shard, api.Ask{Nonce: 5, Blocks: []int{0, 1, 2, 3}})
			for other := -count; other <= 2*count; other++ {
				if other == shard {
					continue
				}
				p.shard = other
				from := 4 * (shard - other)
				p.ask.Blocks = []int{from, from + 1, from + 2, from + 3}
				wantFalse(t, "P12.2: a neighbour's blocks", p)
			}
		}
	}
}

// P12.2: fewer or more answers than blocks, though each one is right.
func TestCheckOfAnotherCountOfAnswers(t *testing.T) {
	each(func(p audited) {
		all := p.answers
		for count := range all {
			p.answers = all[:count]
			wantFalse(t, "P12.2: fewer answers", p)
			p.answers = all[len(all)-count:]
			wantFalse(t, "P12.2: fewer answers, at the first", p)
		}
		for _, more := range all {
			p.answers = append(slices.Clone(all), more)
			wantFalse(t, "P12.2: more answers", p)
			p.answers = append([]api.Answer{more}, all...)
			wantFalse(t, "P12.2: more answers, at the first", p)
		}
		p.answers = append(slices.Clone(all), api.Answer{})
		wantFalse(t, "P12.2: an empty one more", p)
		p.answers = slices.Concat(all, slices.Repeat(all, 70))
		wantFalse(t, "P12.2: far more answers", p)
		p.answers = nil
		wantFalse(t, "P12.2: no answers", p)
	})
}

// P12.2: answers in another order than the blocks.
func TestCheckOfAnotherOrder(t *testing.T) {
	for count := 1; count <= 6; count++ {
		p := right(texts(count, count), count-1, api.Ask{Nonce: 9, Blocks: []int{0, 1, 2, 3}})
		for i := range p.answers {
			for j := range i {
				other := p
				other.answers = slices.Clone(p.answers)
				other.answers[i], other.answers[j] = p.answers[j], p.answers[i]
				wantFalse(t, "P12.2: another order", other)
				other.answers[j] = p.answers[j]
				wantFalse(t, "P12.2: one twice", other)
			}
		}
	}
}

// P12.2: another block is asked for than the one that is answered.
func TestCheckOfAnotherBlock(t *testing.T) {
	each(func(p audited) {
		blocks := p.ask.Blocks
		for at, block := range blocks {
			for other := range 4 {
				if other != block {
					p.ask.Blocks = with(blocks, at, other)
					wantFalse(t, "P12.2: another block", p)
				}
			}
		}
	})
}

// P12.2: a number of shards that is outside, also where all the rest is right of so many.
func TestCheckOfShardsOutside(t *testing.T) {
	each(func(p audited) {
		count := p.shards
		for _, p.shards = range []int{0, -1, -count, 7, 8, 16, 64, 65, 1 << 31, 1<<32 + count, 1<<62 + count, 1<<61 + count, math.MinInt, math.MinInt + count, math.MaxInt} {
			wantFalse(t, "P12.2: a number of shards outside", p)
		}
	})
	for _, count := range []int{7, 8, 9, 15, 16, 17} {
		all := texts(count, count)
		for shard := range all {
			wantFalse(t, "P12.2: too many shards", right(all, shard, ask(count, 3)))
		}
	}
}

// P12.2: a place that is outside.
func TestCheckOfShardOutside(t *testing.T) {
	each(func(p audited) {
		shard, count := p.shard, p.shards
		for _, p.shard = range []int{-1, -2, -count, shard - count, count, count + 1, shard + count, shard + 64, 1 << 31, 1<<32 + shard, 1<<62 + shard, 1<<61 + shard, math.MinInt, math.MinInt + shard, math.MaxInt} {
			wantFalse(t, "P12.2: a place outside", p)
		}
	})
}

// P12.2: another place within.
func TestCheckOfAnotherShard(t *testing.T) {
	each(func(p audited) {
		shard := p.shard
		for p.shard = range p.shards {
			if p.shard != shard {
				wantFalse(t, "P12.2: another place", p)
			}
		}
	})
}

// P12.2: another root, the same one modulo Prime too.
func TestCheckOfAnotherRoot(t *testing.T) {
	each(func(p audited) {
		root := p.root
		for _, by := range turns(root) {
			p.root = (root + by) % prime
			wantFalse(t, "P12.2: another root", p)
		}
		for _, p.root = range append(outsides(), root+prime, root-prime, root+2*prime) {
			wantFalse(t, "P12.2: a root outside", p)
		}
		p.root = p.answers[0].Keyed
		wantFalse(t, "P12.2: the keyed seal as the root", p)
	})
}

// P12.2: another nonce than the one that the keyed seals tell of.
func TestCheckOfAnotherNonce(t *testing.T) {
	each(func(p audited) {
		nonce := p.ask.Nonce
		for _, by := range turns(nonce) {
			p.ask.Nonce = (nonce + by) % prime
			wantFalse(t, "P12.2: another nonce", p)
		}
	})
}

// P12.2: a byte of one block is turned, by whoever has kept path and keyed seal.
func TestCheckOfTurnedByte(t *testing.T) {
	each(func(p audited) {
		next := sample.Numbers(p.root)
		for place := range 8 {
			for _, by := range []byte{1, 2, 0x80, 0xff, byte(1 + next()%255)} {
				wantFalseOther(t, "P12.2: a byte turned", p, func(x *api.Answer) {
					x.Block = x.Block[:place] + string([]byte{x.Block[place] ^ by}) + x.Block[place+1:]
				})
				wantFalseOther(t, "P12.2: a byte turned, keyed anew", p, func(x *api.Answer) {
					x.Block = x.Block[:place] + string([]byte{x.Block[place] + by}) + x.Block[place+1:]
					x.Keyed = pairOf(p.ask.Nonce, sealOf(x.Block))
				})
			}
		}
	})
}

// T5: of a shard of which a byte is turned, each one, what Respond answers is not taken,
// though the block be none that is asked for: the paths tell of it then.
func TestCheckOfTurnedShard(t *testing.T) {
	each(func(p audited) {
		for place := range 32 {
			s := []byte(p.text)
			s[place] ^= byte(1 + place)
			answers, err := Respond(string(s), p.path, p.ask)
			if len(answers) != len(p.ask.Blocks) || err != api.OK {
				t.Fatalf("P12.1: byte %d turned: %#v: %d answers, %d", place, p, len(answers), err)
			}
			other := p
			other.answers = answers
			wantFalse(t, "T5: a byte of the shard turned", other)
		}
	})
}

// P12.2: a block that is shorter or longer than Block bytes.
func TestCheckOfAnotherLengthOfBlock(t *testing.T) {
	each(func(p audited) {
		for length := range 8 {
			wantFalseOther(t, "P12.2: a shorter block", p, func(x *api.Answer) { x.Block = x.Block[:length] })
			wantFalseOther(t, "P12.2: a shorter block, at the first", p, func(x *api.Answer) { x.Block = x.Block[8-length:] })
		}
		for _, more := range []string{"\x00", "\xff", "a", sample.Text(1, 8), sample.Text(1, 24), sample.Text(1, 1<<10)} {
			wantFalseOther(t, "P12.2: a longer block", p, func(x *api.Answer) { x.Block += more })
			wantFalseOther(t, "P12.2: a longer block, at the first", p, func(x *api.Answer) { x.Block = more + x.Block })
		}
	})
}

// P12.2: a block of another length is none, even where path and keyed seal are right of it.
func TestCheckOfAnotherLengthUpToItsRoot(t *testing.T) {
	for length := range 100 {
		block := sample.Text(length, length)
		for at := range 4 {
			leaves := with(row(length, 4, prime), at, sealOf(block))
			for count := 1; count <= 6; count++ {
				shard := length % count
				roots := with(row(length, count, prime), shard, rootOf(leaves))
				a := api.Ask{Nonce: length, Blocks: []int{at}}
				answer := api.Answer{Block: block, Path: append(pathOf(leaves, at), pathOf(roots, shard)...), Keyed: pairOf(length, sealOf(block))}
				p := audited{root: rootOf(roots), shards: count, shard: shard, ask: a, answers: []api.Answer{answer}}
				if length == 8 {
					wantTrue(t, "P12.2: a block's length", p)
				} else {
					wantFalse(t, "P12.2: another length, up to its root", p)
				}
			}
		}
	}
}

// P12.2: a keyed seal that is another one.
func TestCheckOfAnotherKeyed(t *testing.T) {
	each(func(p audited) {
		for _, by := range turns(p.root) {
			wantFalseOther(t, "P12.2: keyed turned", p, func(x *api.Answer) { x.Keyed = (x.Keyed + by) % prime })
		}
		for _, by := range []int{prime, -prime, 2 * prime, 1 << 32, math.MinInt} {
			wantFalseOther(t, "P12.2: keyed outside", p, func(x *api.Answer) { x.Keyed += by })
		}
		for _, keyed := range append(outsides(), p.root, p.ask.Nonce) {
			wantFalseOther(t, "P12.2: keyed another number", p, func(x *api.Answer) { x.Keyed = keyed })
		}
		wantFalseOther(t, "P12.2: the block's seal alone", p, func(x *api.Answer) { x.Keyed = sealOf(x.Block) })
		wantFalseOther(t, "P12.2: turned round", p, func(x *api.Answer) { x.Keyed = pairOf(sealOf(x.Block), p.ask.Nonce) })
	})
}

// P12.2: a path of which one number is turned, into one from outside too, even where it is the same modulo Prime.
func TestCheckOfTurnedPath(t *testing.T) {
	each(func(p audited) {
		for place := range p.answers[0].Path {
			for _, by := range turns(place + p.root) {
				wantFalseOther(t, "P12.2: a number turned", p, func(x *api.Answer) { x.Path[place] = (x.Path[place] + by) % prime })
			}
			for _, by := range []int{prime, -prime, 2 * prime, -2 * prime} {
				wantFalseOther(t, "P12.2: a number outside", p, func(x *api.Answer) { x.Path[place] += by })
			}
			for _, number := range outsides() {
				wantFalseOther(t, "P12.2: a number outside", p, func(x *api.Answer) { x.Path[place] = number })
			}
		}
	})
}

// P12.2: a path that is shorter or longer, by one number or by as many as no path could have.
func TestCheckOfAnotherLengthOfPath(t *testing.T) {
	each(func(p audited) {
		for length := range p.answers[0].Path {
			wantFalseOther(t, "P12.2: a shorter path", p, func(x *api.Answer) { x.Path = x.Path[:length] })
			wantFalseOther(t, "P12.2: a shorter path, at the first", p, func(x *api.Answer) { x.Path = x.Path[len(x.Path)-length:] })
			wantFalseOther(t, "P12.2: one left out", p, func(x *api.Answer) { x.Path = slices.Delete(x.Path, length, length+1) })
			wantFalseOther(t, "P12.2: one put in", p, func(x *api.Answer) { x.Path = slices.Insert(x.Path, length, 5) })
		}
		for _, more := range []int{0, 1, p.root, prime - 1, -1, prime} {
			for _, count := range []int{1, 2, 3, 4, 6, 59, 64, 65} {
				wantFalseOther(t, "P12.2: a longer path", p, func(x *api.Answer) { x.Path = append(x.Path, alike(more, count)...) })
				wantFalseOther(t, "P12.2: a longer path, at the first", p, func(x *api.Answer) { x.Path = append(alike(more, count), x.Path...) })
			}
		}
		wantFalseOther(t, "P12.2: no path", p, func(x *api.Answer) { x.Path = nil })
	})
}

// P12.2: a longer path is none, even where what it leads to is asked for as the root; a shorter one neither.
func TestCheckOfPathToAnotherRoot(t *testing.T) {
	each(func(p audited) {
		p.ask.Blocks, p.answers = p.ask.Blocks[:1], p.answers[:1]
		root := p.root
		for _, more := range []int{0, 1, prime - 1} {
			longer := p.answerOther(0, func(x *api.Answer) { x.Path = append(x.Path, more) })
			for _, longer.root = range []int{pairOf(root, more), pairOf(more, root)} {
				wantFalse(t, "P12.2: longer, to another root", longer)
			}
		}
		shorter := p.answerOther(0, func(x *api.Answer) { x.Path = nil })
		shorter.root = sealOf(p.answers[0].Block)
		wantFalse(t, "P12.2: the block as the root", shorter)
	})
}

// P12.2: numbers of a path that have changed places lead to the same root just where one power of Base stands at both.
func TestCheckOfChangedPath(t *testing.T) {
	each(func(p audited) {
		for at, a := range p.answers {
			for i := range a.Path {
				for j := range i {
					want := follow(p, at, swapped(a.Path, i, j)) == p.root
					changed := p.answerOther(at, func(x *api.Answer) { x.Path = swapped(x.Path, i, j) })
					if got := Check(changed.root, changed.shards, changed.shard, changed.ask, changed.answers); got != want {
						t.Fatalf("P12.2: %d and %d have changed places: %#v: %v; want %v", j, i, changed, got, want)
					}
				}
			}
		}
	})
}

func swapped(path []int, i, j int) []int {
	return with(with(path, i, path[j]), j, path[i])
}

// follow goes a path of as many numbers as are needed up apart from the program: in the shard first, then among the shards.
func follow(p audited, at int, path []int) int {
	root := sealOf(p.answers[at].Block)
	for _, floor := range []struct{ count, at int }{{4, p.ask.Blocks[at]}, {p.shards, p.shard}} {
		for count, at := floor.count, floor.at; count > 1; count, at = (count+1)/2, at/2 {
			if at^1 >= count {
				continue
			}
			if at%2 == 0 {
				root = pairOf(root, path[0])
			} else {
				root = pairOf(path[0], root)
			}
			path = path[1:]
		}
	}
	return root
}

// P12.2: questions by chance, of small numbers too, whose right root is asked for, and the one beside it.
func TestManyQuestions(t *testing.T) {
	next := sample.Numbers(5)
	for i := range 20000 {
		p := audited{shards: 1 + next()%6, ask: api.Ask{Nonce: next() >> (next() % 32) % prime, Blocks: []int{next() % 4}}}
		p.shard = next() % p.shards
		path := make([]int, 2+len(pathOf(alike(0, p.shards), p.shard)))
		for i := range path {
			path[i] = next() >> (next() % 32) % prime
		}
		block := sample.Text(i, 8)
		p.answers = []api.Answer{{Block: block, Path: path, Keyed: pairOf(p.ask.Nonce, sealOf(block))}}
		p.root = follow(p, 0, path)
		wantTrue(t, "P12.2: by chance", p)
		p.root++
		wantFalse(t, "P12.2: by chance, the root beside", p)
	}
}

// R1: very long texts and lists end too.
func TestVeryLong(t *testing.T) {
	long, numbers := strings.Repeat("x", 1<<22), alike(1, 1<<20)
	wantForm(t, "R1: a very long text", long, nil, api.Ask{Blocks: []int{0}})
	wantForm(t, "R1: a very long path", sample.Text(1, 32), numbers, api.Ask{Blocks: []int{0}})
	wantForm(t, "R1: very many blocks", sample.Text(1, 32), nil, api.Ask{Blocks: numbers})
	each(func(p audited) {
		wantFalseOther(t, "R1: a very long block", p, func(x *api.Answer) { x.Block = long })
		wantFalseOther(t, "R1: a very long path", p, func(x *api.Answer) { x.Path = numbers })
	})
	p := right(texts(1, 2), 1, ask(1, 64))
	p.answers = make([]api.Answer, 1<<20)
	wantFalse(t, "R1: very many answers", p)
	p.ask.Blocks = numbers
	wantFalse(t, "R1: very many blocks", p)
}

// wantStays calls do, and asks then whether all of each row is as it was, its spare room too.
func wantStays(t *testing.T, about string, do func(), rows ...[]int) {
	t.Helper()
	var before [][]int
	for _, row := range rows {
		before = append(before, slices.Clone(row[:cap(row)]))
	}
	do()
	for i, row := range rows {
		if !slices.Equal(row[:cap(row)], before[i]) {
			t.Fatalf("R4: %s: row %d: %v; before %v", about, i, row[:cap(row)], before[i])
		}
	}
}

// R4: what Respond is handed in is as it was, its spare room too, whether it is taken or refused.
func TestRespondLeavesAsItWas(t *testing.T) {
	s := sample.Text(1, 32)
	for count := range 66 {
		for length := range 5 {
			path, blocks := row(count, length+9, prime), row(length, count+9, 4)
			wantStays(t, "Respond", func() {
				Respond(s, path[:length], api.Ask{Nonce: 5, Blocks: blocks[:count]})
				Respond(s, path[:length], api.Ask{Nonce: -1, Blocks: blocks[:count]})
				Respond(s[1:], path[:length], api.Ask{Nonce: 5, Blocks: blocks[:count]})
			}, path, blocks)
			blocks[count/2], path[length/2] = 4, prime
			wantStays(t, "Respond, refused", func() {
				Respond(s, path[:length], api.Ask{Nonce: 5, Blocks: blocks[:count]})
			}, path, blocks)
		}
	}
}

// R4: what Check is handed in is as it was, its spare room too, whether it is taken or not.
func TestCheckLeavesAsItWas(t *testing.T) {
	each(func(p audited) {
		p.ask.Blocks = append(slices.Clone(p.ask.Blocks), 1, -1, 4)[:len(p.ask.Blocks)]
		p.answers = append(slices.Clone(p.answers), api.Answer{Block: "spare", Path: []int{1}, Keyed: 2})[:len(p.answers)]
		rows := [][]int{p.ask.Blocks}
		for i, a := range p.answers {
			p.answers[i].Path = append(slices.Clone(a.Path), 5, -6, prime)[:len(a.Path)]
			rows = append(rows, p.answers[i].Path)
		}
		room := p.answers[:cap(p.answers)]
		before := slices.Clone(room)
		wantStays(t, "Check", func() {
			wantTrue(t, "R4", p)
			Check(p.root+1, p.shards, p.shard, p.ask, p.answers)
			Check(p.root, p.shards, p.shards, p.ask, p.answers)
			Check(p.root, p.shards, p.shard, p.ask, p.answers[1:])
			Check(p.root, p.shards, p.shard, api.Ask{Nonce: -1, Blocks: p.ask.Blocks}, p.answers)
		}, rows...)
		if !reflect.DeepEqual(room, before) {
			t.Fatalf("R4: Check: %#v; before %#v", room, before)
		}
	})
}

// overwrite writes over all of answers, their paths and the spare room of these too.
func overwrite(answers []api.Answer) {
	answers = answers[:cap(answers)]
	for i := range answers {
		path := answers[i].Path[:cap(answers[i].Path)]
		for j := range path {
			path[j] = -j - 1
		}
		answers[i] = api.Answer{Block: "written over", Keyed: -1}
	}
}

// R4: what Respond answers shares no memory with another answer, nor with what was handed in.
func TestAnswersApart(t *testing.T) {
	for count := 1; count <= 64; count++ {
		for length := range 4 {
			s, path, a := sample.Text(count, 32), row(length, length+9, prime), ask(count, count)
			want := answersOf(s, path[:length], a)
			again, _ := Respond(s, path[:length], a)
			wantStays(t, "answers written over", func() {
				answers, _ := Respond(s, path[:length], a)
				overwrite(answers)
			}, path, a.Blocks)
			if !reflect.DeepEqual(again, want) {
				t.Fatalf("R4: %d blocks: %#v, behind another answer that was written over; want %#v", count, again, want)
			}
			wantAnswers(t, "R4: behind answers that were written over", s, path[:length], a, want)
		}
	}
}

// R4: no two paths of one answer share memory, their spare room neither, the same block's neither.
func TestPathsApart(t *testing.T) {
	for _, a := range []api.Ask{{Nonce: 1, Blocks: []int{2, 2, 2, 0, 0, 1, 3, 2}}, ask(1, 64)} {
		for length := range 4 {
			s, path := sample.Text(1, 32), row(1, length, prime)
			want := answersOf(s, path, a)
			for at := range want {
				answers, _ := Respond(s, path, a)
				overwrite(answers[at : at+1 : at+1])
				answers[at] = want[at]
				if !reflect.DeepEqual(answers, want) {
					t.Fatalf("R4: answer %d written over: %#v; want %#v", at, answers, want)
				}
			}
		}
	}
}

// R4: what is handed in, written over behind a call, doesn't turn what was answered, and is not kept.
func TestHandedInNotKept(t *testing.T) {
	for count := 1; count <= 64; count++ {
		s, path, a := sample.Text(count, 32), row(count, 3, prime), ask(count, count)
		want := answersOf(s, path, a)
		answers, _ := Respond(s, path, a)
		copy(path, row(-count, 3, prime))
		copy(a.Blocks, row(-count, count, 4))
		wantAnswers(t, "R4: written over", s, path, a, answersOf(s, path, a))
		copy(path, alike(-1, 3))
		copy(a.Blocks, alike(-1, count))
		wantForm(t, "R4: written over", s, path, a)
		if !reflect.DeepEqual(answers, want) {
			t.Fatalf("R4: %#v, behind arguments that were written over; want %#v", answers, want)
		}
	}
}

// R4: the blocks that are answered share no bytes with the shard, nor with one another.
func TestBlocksApart(t *testing.T) {
	s := sample.Text(1, 32)
	from := uintptr(unsafe.Pointer(unsafe.StringData(s)))
	answers, _ := Respond(s, nil, api.Ask{Nonce: 1, Blocks: []int{0, 3, 3, 1, 2, 3, 0}})
	for i, a := range answers {
		at := uintptr(unsafe.Pointer(unsafe.StringData(a.Block)))
		if at >= from && at < from+32 {
			t.Errorf("R4: block %d lies in the shard", i)
		}
		for j, other := range answers[:i] {
			if unsafe.StringData(a.Block) == unsafe.StringData(other.Block) {
				t.Errorf("R4: blocks %d and %d are one", j, i)
			}
		}
	}
}

// R4: Check keeps nothing: what is written over behind it counts as it is then.
func TestCheckedNotKept(t *testing.T) {
	each(func(p audited) {
		wantTrue(t, "R4: before", p)
		for at := range p.answers {
			for place, as := range p.answers[at].Path {
				p.answers[at].Path[place] = (as + 1) % prime
				wantFalse(t, "R4: written over", p)
				p.answers[at].Path[place] = as
			}
			block := p.ask.Blocks[at]
			p.ask.Blocks[at] = (block + 1) % 4
			wantFalse(t, "R4: another block", p)
			p.ask.Blocks[at] = block
		}
		wantTrue(t, "R4: written back", p)
	})
}

// R5: the same again, whatever was asked between.
func TestAskedAgain(t *testing.T) {
	each(func(p audited) {
		wrong := p
		wrong.root = (p.root + 1) % prime
		for other := range 5 {
			Respond(sample.Text(other, 32), row(other, 3-other%4, prime), ask(other, 1+other))
			wantForm(t, "R5: between", p.text, p.path, api.Ask{Nonce: -1, Blocks: p.ask.Blocks})
			wantForm(t, "R5: between", p.text[other+1:], p.path, p.ask)
			wantAnswers(t, "R5: asked again", p.text, p.path, p.ask, p.answers)
			wantFalse(t, "R5: asked again", wrong)
			wantTrue(t, "R5: asked again", p)
		}
	})
}

// R5: the same of texts and lists that lie within others, whatever stands about them.
func TestWithinOthers(t *testing.T) {
	each(func(p audited) {
		s := ("?" + p.text + "!")[1:33]
		path := slices.Concat([]int{-1}, p.path, []int{prime})[1 : len(p.path)+1]
		blocks := slices.Concat([]int{-1}, p.ask.Blocks, []int{4})[1 : len(p.ask.Blocks)+1]
		wantAnswers(t, "R5: within others", s, path, api.Ask{Nonce: p.ask.Nonce, Blocks: blocks}, p.answers)
		p.ask.Blocks = blocks
		p.answers = slices.Concat([]api.Answer{{}}, p.answers, []api.Answer{{}})[1 : len(p.answers)+1]
		wantTrue(t, "R5: within others", p)
	})
}

// R5: the same from several goroutines at one time, of one question, one path and one row of answers.
func TestAtOneTime(t *testing.T) {
	p := right(texts(7, 6), 3, ask(7, 64))
	var group sync.WaitGroup
	for range 8 {
		group.Go(func() {
			for range 50 {
				if got, err := Respond(p.text, p.path, p.ask); !reflect.DeepEqual(got, p.answers) || err != api.OK {
					t.Errorf("R5: Respond: %#v, %d; want %#v", got, err, p.answers)
				}
				if !Check(p.root, p.shards, p.shard, p.ask, p.answers) || Check(p.root, p.shards, p.shard+1, p.ask, p.answers) {
					t.Error("R5: Check: not as when asked alone")
				}
			}
		})
	}
	group.Wait()
}
