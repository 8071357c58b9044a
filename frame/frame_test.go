package frame

import (
	"encoding/binary"
	"encoding/hex"
	"errors"
	"math"
	"slices"
	"strings"
	"sync"
	"testing"
	"unsafe"

	"ossuary/api"
	"ossuary/sample"
)

const prime = 2147483647

// framed is what a frame tells.
type framed struct {
	slot, shard int
	s           string
	path        []int
}

// sealOf works a text's seal out apart from the program: from the first byte on, with a power of its own for each place.
func sealOf(s string) int {
	total, power := uint64(0), uint64(1)
	for i := range len(s) {
		power = power * 65537 % prime
		total = (total + power*(uint64(s[i])+1)) % prime
	}
	return int(total)
}

// sealed puts behind the 48 bytes ahead of a frame's seal what stands there then, apart from the program.
func sealed(ahead []byte) string {
	b := make([]byte, 64)
	copy(b, ahead[:48])
	binary.LittleEndian.PutUint32(b[48:], uint32(sealOf(string(ahead[:48]))))
	return string(b)
}

// frameOf works a frame out apart from the program, place by place.
func frameOf(f framed) string {
	b := make([]byte, 48)
	b[0], b[1], b[2], b[3] = 'O', byte(f.slot), byte(f.shard), byte(len(f.path))
	copy(b[4:36], f.s)
	for i, number := range f.path {
		binary.LittleEndian.PutUint32(b[36+4*i:], uint32(number))
	}
	return sealed(b)
}

// sealedAnew is the frame of which turn turns bytes ahead of its seal, which is made anew.
func sealedAnew(f framed, turn func(b []byte)) string {
	b := []byte(frameOf(f))
	turn(b[:48])
	return sealed(b)
}

// with is t with other bytes at a place.
func with(t string, at int, other string) string { return t[:at] + other + t[at+len(other):] }

// turned is t with one byte turned.
func turned(t string, at, by int) string { return with(t, at, string([]byte{t[at] ^ byte(by)})) }

// alike is a shard of one byte, all over.
func alike(b byte) string { return strings.Repeat(string([]byte{b}), 32) }

// rising is a shard of which each byte is one more than the one ahead.
func rising(from int) string {
	b := make([]byte, 32)
	for i := range b {
		b[i] = byte(from + i)
	}
	return string(b)
}

// ends tells numbers from 0 below Prime whose bytes are ends.
func ends() []int {
	return []int{0, 1, 127, 128, 255, 256, 257, 65535, 65536, 1<<24 - 1, 1 << 24, 0x01020304, 0x7f7e7d7c, 1<<30 - 1, 1 << 30, prime - 256, prime - 2, prime - 1}
}

// outsides tells numbers that none of a path may be.
func outsides() []int {
	return []int{
		-1, -2, -256, -prime, -prime - 1, -1 << 31, -1 << 32, math.MinInt, math.MinInt + 1,
		prime, prime + 1, 2 * prime, 1 << 31, 1<<32 - 1, 1 << 32, 1<<32 + 1, 1 << 40, math.MaxInt - 1, math.MaxInt,
	}
}

// noSlots tells numbers that no slot has.
func noSlots() []int {
	return []int{-1, -2, -24, -255, -256, -232, -1 << 32, math.MinInt, math.MinInt + 1, 24, 25, 64, 79, 255, 256, 257, 279, 1 << 32, 1<<32 + 1, math.MaxInt}
}

// noShards tells numbers that no shard has.
func noShards() []int {
	return []int{-1, -2, -6, -255, -256, -250, -1 << 32, math.MinInt, math.MinInt + 1, 6, 7, 24, 79, 255, 256, 257, 261, 1 << 32, 1<<32 + 1, math.MaxInt}
}

// lengths tells how long a text may be that is no shard.
func lengths() []int {
	return []int{0, 1, 8, 16, 28, 30, 31, 33, 34, 36, 48, 63, 64, 96, 256, 288, 1 << 16, 1<<16 + 32}
}

// path makes one of so many numbers, unlike from seed to seed: ends, any, small ones.
func path(seed, length int) []int {
	next := sample.Numbers(seed)
	all := make([]int, length)
	for i := range all {
		switch next() % 3 {
		case 0:
			all[i] = ends()[next()%len(ends())]
		case 1:
			all[i] = next() % prime
		default:
			all[i] = next() >> (next() % 32) % prime
		}
	}
	return all
}

// one is a frame of a path of so many numbers, unlike from seed to seed.
func one(seed, length int) framed {
	next := sample.Numbers(seed)
	return framed{next() % 24, next() % 6, sample.Text(seed, 32), path(seed, length)}
}

// each calls do with frames of each slot and each shard, with paths of each length.
func each(do func(f framed)) {
	for slot := range 24 {
		for shard := range 6 {
			for length := range 4 {
				seed := 1000*slot + 10*shard + length
				do(framed{slot, shard, sample.Text(seed, 32), path(seed, length)})
			}
		}
	}
}

func wantPut(t *testing.T, about string, f framed, want string) {
	t.Helper()
	if got, err := Put(f.slot, f.shard, f.s, f.path); got != want || err != api.OK {
		t.Fatalf("%s: %#v: %x, %d; want %x, %d", about, f, got, err, want, api.OK)
	}
}

func wantNoPut(t *testing.T, about string, f framed) {
	t.Helper()
	if got, err := Put(f.slot, f.shard, f.s, f.path); got != "" || err != api.ErrFrameForm {
		t.Fatalf("%s: %d, %d, %d bytes, %d numbers: %x, %d; want none, %d", about, f.slot, f.shard, len(f.s), len(f.path), got, err, api.ErrFrameForm)
	}
}

func wantGet(t *testing.T, about, sector string, want framed) {
	t.Helper()
	if s, path, err := Get(sector, want.slot, want.shard); s != want.s || !slices.Equal(path, want.path) || err != api.OK {
		t.Fatalf("%s: %x: %x, %v, %d; want %#v, %d", about, sector, s, path, err, want, api.OK)
	}
}

func wantNoGet(t *testing.T, about, sector string, slot, shard int) {
	t.Helper()
	if s, path, err := Get(sector, slot, shard); s != "" || len(path) != 0 || err != api.ErrFrameForm {
		t.Fatalf("%s: %d bytes: %x, slot %d, shard %d: %x, %v, %d; want none, %d", about, len(sector), sector[:min(len(sector), 64)], slot, shard, s, path, err, api.ErrFrameForm)
	}
}

// P14.1, P14.2: the numbers that the chapter names.
func TestNumbers(t *testing.T) {
	if api.Sector != 64 || api.Shard != 32 || api.MaxSlots != 24 || api.MaxDisks != 6 || api.MaxPath != 3 || api.Prime != prime {
		t.Fatal("the numbers of package api are not the document's")
	}
	if api.OK != 0 || api.ErrFrameForm != 1400 {
		t.Fatal("the errors of package api are not the document's")
	}
}

// P14.1, P14.2: frames written out, worked out by a script apart from the program.
func TestKnownFrames(t *testing.T) {
	for _, known := range []struct {
		slot, shard int
		s           string
		path        []int
		want        string
	}{
		{0, 0, alike(0), nil, "4f0000000000000000000000000000000000000000000000000000000000000000000000000000000000000000000000e9d0ed57000000000000000000000000"},
		{23, 5, alike(255), []int{2147483646, 2147483646, 2147483646}, "4f170503fffffffffffffffffffffffffffffffffffffffffffffffffffffffffffffffffeffff7ffeffff7ffeffff7fa3a3ce2e000000000000000000000000"},
		{5, 1, "bone dust, ash and dust to bones", []int{1130239740}, "4f050101626f6e6520647573742c2061736820616e64206475737420746f20626f6e6573fc165e430000000000000000fb221507000000000000000000000000"},
		{0, 5, rising(0), []int{0}, "4f000501000102030405060708090a0b0c0d0e0f101112131415161718191a1b1c1d1e1f0000000000000000000000002b38155f000000000000000000000000"},
		{0, 5, rising(0), []int{0, 0}, "4f000502000102030405060708090a0b0c0d0e0f101112131415161718191a1b1c1d1e1f0000000000000000000000003c38215f000000000000000000000000"},
		{0, 5, rising(0), []int{0, 0, 0}, "4f000503000102030405060708090a0b0c0d0e0f101112131415161718191a1b1c1d1e1f0000000000000000000000004d382d5f000000000000000000000000"},
		{0, 5, rising(0), nil, "4f000500000102030405060708090a0b0c0d0e0f101112131415161718191a1b1c1d1e1f0000000000000000000000001a38095f000000000000000000000000"},
		{23, 0, rising(224), []int{1, 256}, "4f170002e0e1e2e3e4e5e6e7e8e9eaebecedeeeff0f1f2f3f4f5f6f7f8f9fafbfcfdfeff010000000001000000000000a229cf06000000000000000000000000"},
		{12, 3, "ashes to ashes, and bone to bone", []int{65536, 16777216, 2147483646}, "4f0c0303617368657320746f2061736865732c20616e6420626f6e6520746f20626f6e650000010000000001feffff7f4e70d132000000000000000000000000"},
		{1, 2, "O\x01\x02\x03" + alike(0)[4:], []int{16909060, 0, 2138996092}, "4f0102034f0102030000000000000000000000000000000000000000000000000000000004030201000000007c7d7e7ffb21794b000000000000000000000000"},
	} {
		want, err := hex.DecodeString(known.want)
		if err != nil {
			t.Fatal(err)
		}
		f := framed{known.slot, known.shard, known.s, known.path}
		wantPut(t, "P14.1: written out", f, string(want))
		wantGet(t, "P14.2: written out", string(want), f)
	}
}

// P14.1, P14.2: each slot, each shard, a path of no number to MaxPath numbers: byte by byte, and back.
func TestEachFrame(t *testing.T) {
	each(func(f framed) {
		want := frameOf(f)
		wantPut(t, "P14.1: each slot and shard", f, want)
		wantGet(t, "P14.2: each slot and shard", want, f)
	})
}

// P14.1, P14.2: each end of the numbers of a path, at each place, beside the others.
func TestEachNumber(t *testing.T) {
	for length := 1; length <= 3; length++ {
		for at := range length {
			for _, number := range ends() {
				f := one(length, length)
				f.path[at] = number
				wantPut(t, "P14.1: a number", f, frameOf(f))
				wantGet(t, "P14.2: a number", frameOf(f), f)
			}
		}
		for _, number := range ends() {
			f := one(length, length)
			f.path = slices.Repeat([]int{number}, length)
			wantPut(t, "P14.1: alike numbers", f, frameOf(f))
			wantGet(t, "P14.2: alike numbers", frameOf(f), f)
		}
	}
	for bit := range 31 {
		f := framed{bit % 24, bit % 6, rising(bit), []int{prime - 1 - 1<<bit, 1 << bit, 1<<bit - 1}}
		wantPut(t, "P14.1: each bit", f, frameOf(f))
		wantGet(t, "P14.2: each bit", frameOf(f), f)
	}
}

// P14.1, P14.2: a path of which the last numbers are 0 is not the path without them.
func TestZerosOfPaths(t *testing.T) {
	seen := map[string]int{}
	for _, path := range [][]int{nil, {0}, {0, 0}, {0, 0, 0}, {5}, {5, 0}, {5, 0, 0}, {0, 5}, {0, 5, 0}, {0, 0, 5}} {
		f := framed{7, 3, rising(9), path}
		got, err := Put(f.slot, f.shard, f.s, f.path)
		if before, again := seen[got]; again || err != api.OK {
			t.Fatalf("P14.1: path %v is told as one of %d numbers, %d", path, before, err)
		}
		seen[got] = len(path)
		wantGet(t, "P14.2: zeros of a path", got, f)
	}
	wantPut(t, "P14.1: an empty path", framed{7, 3, rising(9), []int{}}, frameOf(framed{7, 3, rising(9), nil}))
}

// P14.1, P14.2: each byte at each place of the shard.
func TestEachByte(t *testing.T) {
	for b := range 256 {
		for at := range 32 {
			f := framed{b % 24, at % 6, with(rising(b), at, string([]byte{byte(b)})), path(b, at%4)}
			wantPut(t, "P14.1: each byte", f, frameOf(f))
			wantGet(t, "P14.2: each byte", frameOf(f), f)
		}
		f := framed{b % 24, b % 6, alike(byte(b)), path(b, b%4)}
		wantPut(t, "P14.1: one byte, all over", f, frameOf(f))
		wantGet(t, "P14.2: one byte, all over", frameOf(f), f)
	}
}

// P14.1, P14.2: a frame's own bytes may be a shard's.
func TestFrameInFrame(t *testing.T) {
	f := one(3, 3)
	for range 40 {
		got, _ := Put(f.slot, f.shard, f.s, f.path)
		wantGet(t, "P14.2: a frame in a frame", frameOf(f), f)
		f.s = got[:32]
		wantPut(t, "P14.1: a frame in a frame", f, frameOf(f))
		f.s, f.slot = got[20:52], (f.slot+1)%24
		wantPut(t, "P14.1: a seal in a frame", f, frameOf(f))
	}
}

// P14.1, P14.2: frames by chance.
func TestManyFrames(t *testing.T) {
	for seed := range 20000 {
		f := one(seed, seed%4)
		wantPut(t, "P14.1: by chance", f, frameOf(f))
		wantGet(t, "P14.2: by chance", frameOf(f), f)
	}
}

// P14.1: a slot that is negative or one too many, or far off.
func TestPutOfNoSlot(t *testing.T) {
	for length := range 4 {
		f := one(length, length)
		for _, f.slot = range noSlots() {
			wantNoPut(t, "P14.1: no slot", f)
		}
	}
}

// P14.1: a shard that is negative or one too many, or far off.
func TestPutOfNoShard(t *testing.T) {
	for length := range 4 {
		f := one(length, length)
		for _, f.shard = range noShards() {
			wantNoPut(t, "P14.1: no shard", f)
		}
	}
}

// P14.1: a text of fewer or of more bytes than a shard has; letters are not counted.
func TestPutOfNoText(t *testing.T) {
	for length := range 4 {
		f := one(length, length)
		for _, bytes := range lengths() {
			f.s = sample.Text(bytes, bytes)
			wantNoPut(t, "P14.1: no shard's length", f)
			f.s = strings.Repeat("\x00", bytes)
			wantNoPut(t, "P14.1: no shard's length, zeros", f)
		}
		f.s = strings.Repeat("ä", 32)
		wantNoPut(t, "P14.1: letters are not counted", f)
		f.s = strings.Repeat("ä", 16)
		wantPut(t, "P14.1: bytes are counted", f, frameOf(f))
	}
}

// P14.1: a path of more than MaxPath numbers, though they be 0.
func TestPutOfLongPath(t *testing.T) {
	for _, length := range []int{4, 5, 6, 7, 255, 256, 257, 259, 1 << 16} {
		wantNoPut(t, "P14.1: a long path", framed{1, 2, rising(0), path(length, length)})
		wantNoPut(t, "P14.1: a long path of zeros", framed{1, 2, rising(0), make([]int, length)})
	}
}

// P14.1: a number of a path that is negative, or Prime or more, at each place.
func TestPutOfNumberOutside(t *testing.T) {
	for length := 1; length <= 3; length++ {
		for at := range length {
			f := one(length, length)
			for _, f.path[at] = range outsides() {
				wantNoPut(t, "P14.1: a number outside", f)
			}
		}
	}
}

// P14.1: several faults at one time are one.
func TestPutOfSeveralFaults(t *testing.T) {
	for _, slot := range []int{-1, 3, 24} {
		for _, shard := range []int{-1, 3, 6} {
			for _, s := range []string{"", rising(1), rising(1) + "x"} {
				for _, path := range [][]int{nil, {-1}, {1, prime}, {1, 2, 3, 4}} {
					f := framed{slot, shard, s, path}
					if slot == 3 && shard == 3 && len(s) == 32 && path == nil {
						wantPut(t, "P14.1: no fault", f, frameOf(f))
					} else {
						wantNoPut(t, "P14.1: several faults", f)
					}
				}
			}
		}
	}
}

// P14.1, P14.2: what is refused says which part of it is, and wraps the error that is answered.
func TestRefusalsWrap(t *testing.T) {
	s, sector := rising(1), frameOf(one(1, 2))
	_, _, short := read(sector[1:])
	_, _, long := read(with(sector, 3, "\x04"))
	for _, c := range []struct {
		err  error
		want string
	}{
		{refuse(24, 0, s, nil), "slot: ossuary: error 1400"},
		{refuse(0, -1, s, nil), "shard: ossuary: error 1400"},
		{refuse(0, 0, "", nil), "text: ossuary: error 1400"},
		{refuse(0, 0, s, make([]int, 4)), "path: ossuary: error 1400"},
		{refuse(0, 0, s, []int{prime}), "path: ossuary: error 1400"},
		{short, "sector: ossuary: error 1400"},
		{long, "path: ossuary: error 1400"},
	} {
		if c.err == nil || !errors.Is(c.err, api.ErrFrameForm) || c.err.Error() != c.want {
			t.Errorf("refused: %v; want %s", c.err, c.want)
		}
	}
	if err := refuse(23, 5, s, make([]int, 3)); err != nil {
		t.Errorf("nothing to refuse: %v", err)
	}
	if _, _, err := read(sector); err != nil {
		t.Errorf("nothing to refuse: %v", err)
	}
}

// P14.2: a right frame, asked for with another slot: each other one, and none.
func TestGetOfAnotherSlot(t *testing.T) {
	each(func(f framed) {
		sector := frameOf(f)
		for slot := range 24 {
			if slot != f.slot {
				wantNoGet(t, "P14.2: another slot", sector, slot, f.shard)
			}
		}
		for _, slot := range append(noSlots(), f.slot+256, f.slot-256, f.slot+1<<32, f.slot+math.MinInt) {
			wantNoGet(t, "P14.2: no slot", sector, slot, f.shard)
		}
	})
}

// P14.2: a right frame, asked for with another shard: each other one, and none.
func TestGetOfAnotherShard(t *testing.T) {
	each(func(f framed) {
		sector := frameOf(f)
		for shard := range 6 {
			if shard != f.shard {
				wantNoGet(t, "P14.2: another shard", sector, f.slot, shard)
				wantNoGet(t, "P14.2: slot and shard have changed places", sector, shard, f.slot)
			}
		}
		for _, shard := range append(noShards(), f.shard+256, f.shard-256, f.shard+1<<32, f.shard+math.MinInt) {
			wantNoGet(t, "P14.2: no shard", sector, f.slot, shard)
		}
	})
}

// P14.2: a text of fewer or of more bytes than a sector has.
func TestGetOfAnotherLength(t *testing.T) {
	for length := range 4 {
		f := one(length, length)
		sector := frameOf(f)
		for count := range 64 {
			wantNoGet(t, "P14.2: fewer bytes", sector[:count], f.slot, f.shard)
			wantNoGet(t, "P14.2: fewer bytes, at the first", sector[64-count:], f.slot, f.shard)
			wantNoGet(t, "P14.2: one byte left out", sector[:count]+sector[count+1:], f.slot, f.shard)
			wantNoGet(t, "P14.2: one byte put in", sector[:count]+"\x00"+sector[count:], f.slot, f.shard)
		}
		for _, more := range []string{"\x00", "x", sector, strings.Repeat("\x00", 64), sample.Text(1, 192)} {
			wantNoGet(t, "P14.2: more bytes", sector+more, f.slot, f.shard)
			wantNoGet(t, "P14.2: more bytes, at the first", more+sector, f.slot, f.shard)
		}
	}
}

// P14.2: texts of one byte all over, of any bytes, of none.
func TestGetOfNoFrame(t *testing.T) {
	for slot := range 24 {
		for shard := range 6 {
			wantNoGet(t, "P14.2: nothing", "", slot, shard)
			for b := range 256 {
				wantNoGet(t, "P14.2: one byte, all over", strings.Repeat(string([]byte{byte(b)}), 64), slot, shard)
			}
			wantNoGet(t, "P14.2: any bytes", sample.Text(slot, 64), slot, shard)
			wantNoGet(t, "P14.2: any bytes", with(sample.Text(slot, 64), 0, string([]byte{'O', byte(slot), byte(shard), 0})), slot, shard)
		}
	}
	for _, length := range lengths() {
		wantNoGet(t, "P14.2: zeros", strings.Repeat("\x00", length), 0, 0)
		wantNoGet(t, "P14.2: any bytes", sample.Text(length, length), 0, 0)
	}
}

// P14.3: a frame of which one byte was turned, at each place, by each of 1 to 255, is none,
// neither with its own slot and shard nor with those that it tells now.
func TestGetOfTurnedByte(t *testing.T) {
	for length := range 4 {
		for seed := range 5 {
			f := one(10*seed+length, length)
			sector := frameOf(f)
			for at := range 64 {
				for by := 1; by <= 255; by++ {
					other := turned(sector, at, by)
					wantNoGet(t, "P14.3: a byte turned", other, f.slot, f.shard)
					wantNoGet(t, "P14.3: a byte turned, as it tells now", other, int(other[1]), int(other[2]))
				}
			}
		}
	}
	each(func(f framed) {
		next := sample.Numbers(10*f.slot + f.shard)
		for at := range 64 {
			wantNoGet(t, "P14.3: a byte turned, of each slot and shard", turned(frameOf(f), at, 1+next()%255), f.slot, f.shard)
		}
	})
}

// P14.2: another first byte, beneath a right seal.
func TestGetOfAnotherMark(t *testing.T) {
	each(func(f framed) {
		for _, mark := range []byte{0, 'M', 'N', 'P', 'o', 0xcf, 0xff} {
			wantNoGet(t, "P14.2: another mark", sealedAnew(f, func(b []byte) { b[0] = mark }), f.slot, f.shard)
		}
	})
	f := one(1, 2)
	for mark := range 256 {
		sector := sealedAnew(f, func(b []byte) { b[0] = byte(mark) })
		if mark == 'O' {
			wantGet(t, "P14.2: the mark", sector, f)
		} else {
			wantNoGet(t, "P14.2: another mark", sector, f.slot, f.shard)
		}
	}
}

// P14.2: a slot or a shard that is none, beneath a right seal, asked for as it stands there.
func TestGetOfSealedNone(t *testing.T) {
	for length := range 4 {
		f := one(length, length)
		for b := range 256 {
			slots := sealedAnew(f, func(at []byte) { at[1] = byte(b) })
			shards := sealedAnew(f, func(at []byte) { at[2] = byte(b) })
			if b < 24 {
				wantGet(t, "P14.2: a slot", slots, framed{b, f.shard, f.s, f.path})
			} else {
				wantNoGet(t, "P14.2: no slot, as it stands there", slots, b, f.shard)
				wantNoGet(t, "P14.2: no slot", slots, f.slot, f.shard)
			}
			if b < 6 {
				wantGet(t, "P14.2: a shard", shards, framed{f.slot, b, f.s, f.path})
			} else {
				wantNoGet(t, "P14.2: no shard, as it stands there", shards, f.slot, b)
				wantNoGet(t, "P14.2: no shard", shards, f.slot, f.shard)
			}
		}
	}
}

// P14.2: a path said to be longer than MaxPath, beneath a right seal; one said to be longer than it was bears zeros.
func TestGetOfSealedLength(t *testing.T) {
	for length := range 4 {
		f := one(length, length)
		for said := range 256 {
			sector := sealedAnew(f, func(b []byte) { b[3] = byte(said) })
			switch {
			case said > 3:
				wantNoGet(t, "P14.2: a longer path than MaxPath", sector, f.slot, f.shard)
			case said >= length:
				wantGet(t, "P14.2: zeros behind", sector, framed{f.slot, f.shard, f.s, append(slices.Clone(f.path), make([]int, said-length)...)})
			}
		}
	}
}

// P14.2: a number behind the path that is not 0, beneath a right seal: each of its bytes.
func TestGetOfNumberBehind(t *testing.T) {
	for length := range 3 {
		f := one(length, length)
		for at := 36 + 4*length; at < 48; at++ {
			for by := 1; by <= 255; by++ {
				sector := sealedAnew(f, func(b []byte) { b[at] = byte(by) })
				wantNoGet(t, "P14.2: a number behind the path", sector, f.slot, f.shard)
			}
		}
	}
}

// P14.2: a number of Prime or more in the path, beneath a right seal.
func TestGetOfNumberOutside(t *testing.T) {
	for length := 1; length <= 3; length++ {
		for at := range length {
			f := one(length, length)
			next := sample.Numbers(length)
			for _, number := range []int{prime, prime + 1, prime + 2, 1<<31 + 255, 1<<31 + 1<<30, 2 * prime, 1<<32 - 1, 1<<31 + next()%(1<<31)} {
				sector := sealedAnew(f, func(b []byte) { binary.LittleEndian.PutUint32(b[36+4*at:], uint32(number)) })
				wantNoGet(t, "P14.2: a number outside", sector, f.slot, f.shard)
			}
			sector := sealedAnew(f, func(b []byte) { binary.LittleEndian.PutUint32(b[36+4*at:], prime-1) })
			f.path[at] = prime - 1
			wantGet(t, "P14.2: the greatest number", sector, f)
		}
	}
}

// P14.2: a byte behind the seal that is not 0, each one by each number; all of them; another seal there.
func TestGetOfByteBehindSeal(t *testing.T) {
	for length := range 4 {
		f := one(length, length)
		sector := frameOf(f)
		for at := 52; at < 64; at++ {
			for b := 1; b <= 255; b++ {
				wantNoGet(t, "P14.2: a byte behind the seal", with(sector, at, string([]byte{byte(b)})), f.slot, f.shard)
			}
			wantNoGet(t, "P14.2: all bytes behind", sector[:at]+strings.Repeat("\x01", 64-at), f.slot, f.shard)
		}
		wantNoGet(t, "P14.2: the seal twice", with(sector, 52, sector[48:52]), f.slot, f.shard)
		wantNoGet(t, "P14.2: the seal at the end", sector[:48]+sector[52:]+sector[48:52], f.slot, f.shard)
	}
}

// P14.2: another seal: the same modulo Prime, its bytes in another row, of other bytes than it should be of.
func TestGetOfAnotherSeal(t *testing.T) {
	each(func(f framed) {
		sector := frameOf(f)
		number := func(number int) string { return string(binary.LittleEndian.AppendUint32(nil, uint32(number))) }
		right := sealOf(sector[:48])
		for _, other := range []int{right + prime, right + 1, right - 1, right ^ 1<<31, sealOf(sector[4:36]), sealOf(sector[:47]), sealOf(sector[:36]), sealOf(sector[1:48]), sealOf(sector), 0, 1<<32 - 1} {
			wantNoGet(t, "P14.2: another seal", with(sector, 48, number(other)), f.slot, f.shard)
		}
		round := []byte(sector)
		slices.Reverse(round[48:52])
		wantNoGet(t, "P14.2: the seal turned round", string(round), f.slot, f.shard)
	})
}

// told tells apart from the program whether such a sector is a frame of slot and shard: part by part.
func told(sector string, slot, shard int) bool {
	le := func(at int) int { return int(binary.LittleEndian.Uint32([]byte(sector[at:]))) }
	if sector[0] != 'O' || int(sector[1]) != slot || int(sector[2]) != shard || slot >= 24 || shard >= 6 || sector[3] > 3 {
		return false
	}
	for i := range 3 {
		if le(36+4*i) >= prime || i >= int(sector[3]) && le(36+4*i) != 0 {
			return false
		}
	}
	return le(48) == sealOf(sector[:48]) && strings.Trim(sector[52:], "\x00") == ""
}

// P14.2: sectors by chance that are nearly frames, sealed rightly: just those are told that Put tells, and Put tells them again.
func TestGetByChance(t *testing.T) {
	next := sample.Numbers(14)
	count := 0
	for seed := range 60000 {
		f := one(seed, next()%4)
		sector := sealedAnew(f, func(b []byte) {
			for range next() % 3 {
				b[[]int{0, 1, 2, 3, 4 + next()%32, 36 + next()%12, 39, 43, 47}[next()%9]] = byte(next() >> (next() % 32))
			}
		})
		slot, shard := int(sector[1]), int(sector[2])
		if !told(sector, slot, shard) {
			wantNoGet(t, "P14.2: nearly a frame", sector, slot, shard)
			continue
		}
		count++
		s, path, err := Get(sector, slot, shard)
		if s != sector[4:36] || len(path) != int(sector[3]) || err != api.OK {
			t.Fatalf("P14.2: %x: %x, %v, %d", sector, s, path, err)
		}
		wantPut(t, "P14.2: put again", framed{slot, shard, s, path}, sector)
	}
	if count < 10000 || count > 50000 {
		t.Fatalf("%d of 60000 are frames: the test asks too little", count)
	}
}

// R1: very long texts and paths end too.
func TestVeryLong(t *testing.T) {
	long := strings.Repeat("O", 1<<22)
	wantNoPut(t, "R1: a very long text", framed{0, 0, long, nil})
	wantNoPut(t, "R1: a very long path", framed{0, 0, rising(0), make([]int, 1<<20)})
	wantNoGet(t, "R1: a very long text", long, 0, 0)
	wantNoGet(t, "R1: a very long text", frameOf(one(1, 1))+long, one(1, 1).slot, one(1, 1).shard)
}

// R4: the path that is handed in is as it was, its spare room too, whether it is taken or refused.
func TestHandedInStays(t *testing.T) {
	for length := range 6 {
		for spare := range 6 {
			room := path(10*length+spare, length+spare)
			before := slices.Clone(room)
			for _, slot := range []int{5, 24} {
				Put(slot, 3, rising(0), room[:length])
				Put(slot, 3, rising(0)[1:], room[:length])
			}
			if length > 0 {
				room[length-1], before[length-1] = prime, prime
				Put(5, 3, rising(0), room[:length])
			}
			if !slices.Equal(room, before) {
				t.Fatalf("R4: %d numbers and room for %d: %v; before %v", length, spare, room, before)
			}
		}
	}
}

// overwrite writes over all of a path, its spare room too.
func overwrite(path []int) {
	path = path[:cap(path)]
	for i := range path {
		path[i] = -i - 1
	}
}

// R4: a path that is answered, written over, turns no other answer.
func TestAnswersApart(t *testing.T) {
	each(func(f framed) {
		sector := frameOf(f)
		_, kept, _ := Get(sector, f.slot, f.shard)
		_, other, _ := Get(sector, f.slot, f.shard)
		overwrite(other)
		if !slices.Equal(kept, f.path) {
			t.Fatalf("R4: %v, behind another answer that was written over; want %v", kept, f.path)
		}
		wantGet(t, "R4: behind an answer that was written over", sector, f)
	})
}

// R4: the path that is handed in, written over behind a call, is not kept, nor does it turn what was answered.
func TestHandedInNotKept(t *testing.T) {
	each(func(f framed) {
		given, want := slices.Clone(f.path), frameOf(f)
		got, _ := Put(f.slot, f.shard, f.s, given)
		other := framed{f.slot, f.shard, f.s, path(-f.slot, len(given))}
		copy(given, other.path)
		wantPut(t, "R4: written over", framed{f.slot, f.shard, f.s, given}, frameOf(other))
		overwrite(given)
		if len(given) > 0 {
			wantNoPut(t, "R4: written over", framed{f.slot, f.shard, f.s, given})
		}
		if got != want {
			t.Fatalf("R4: %x, behind a path that was written over; want %x", got, want)
		}
		wantPut(t, "R4: the same path again", f, want)
	})
}

// lies asks whether the bytes of inner lie among those of outer.
func lies(inner, outer string) bool {
	at, from := uintptr(unsafe.Pointer(unsafe.StringData(inner))), uintptr(unsafe.Pointer(unsafe.StringData(outer)))
	return at >= from && at < from+uintptr(len(outer))
}

// R4: the texts that are answered share no bytes with those that were handed in, nor with one another.
func TestTextsApart(t *testing.T) {
	each(func(f framed) {
		sector, _ := Put(f.slot, f.shard, f.s, f.path)
		again, _ := Put(f.slot, f.shard, f.s, f.path)
		s, _, _ := Get(sector, f.slot, f.shard)
		other, _, _ := Get(sector, f.slot, f.shard)
		if lies(f.s, sector) || lies(again, sector) || lies(s, sector) || lies(s, f.s) || lies(s, other) || lies(s, again) {
			t.Fatalf("R4: %#v: a text lies where another lies", f)
		}
	})
}

// R5: the same again, whatever was asked between.
func TestAskedAgain(t *testing.T) {
	each(func(f framed) {
		want := frameOf(f)
		for length := range 4 {
			other := one(f.slot+length, length)
			Put(other.slot, other.shard, other.s, other.path)
			Get(frameOf(other), other.slot, other.shard)
			wantPut(t, "R5: behind another", f, want)
			wantGet(t, "R5: behind another", want, f)
		}
		Put(-1, 0, "", nil)
		Get("", 0, 0)
		wantPut(t, "R5: behind an error", f, want)
		wantGet(t, "R5: behind an error", want, f)
	})
}

// R5: the same of texts and paths that lie within others, whatever stands about them.
func TestWithinOthers(t *testing.T) {
	each(func(f framed) {
		want := frameOf(f)
		within := f
		within.s = ("?" + f.s + "!")[1:33]
		within.path = slices.Concat([]int{-1}, f.path, []int{prime, 5, 6})[1 : len(f.path)+1]
		wantPut(t, "R5: within others", within, want)
		wantGet(t, "R5: within others", ("O" + want + "O")[1:65], f)
	})
}

// R5: the same from several goroutines at one time.
func TestAtOneTime(t *testing.T) {
	var group sync.WaitGroup
	f := one(7, 3)
	want := frameOf(f)
	for range 8 {
		group.Go(func() {
			for range 500 {
				got, _ := Put(f.slot, f.shard, f.s, f.path)
				s, path, err := Get(want, f.slot, f.shard)
				_, _, none := Get(want, f.slot, (f.shard+1)%6)
				if got != want || s != f.s || !slices.Equal(path, f.path) || err != api.OK || none != api.ErrFrameForm {
					t.Errorf("R5: at one time: %x, %x, %v, %d, %d", got, s, path, err, none)
				}
			}
		})
	}
	group.Wait()
}
