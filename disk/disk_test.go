package disk

import (
	"math"
	"slices"
	"strings"
	"sync"
	"testing"
	"unsafe"

	"ossuary/api"
	"ossuary/sample"
)

// texts makes count texts of a sector's bytes, unlike from seed to seed.
func texts(seed, count int) (all []string) {
	for i := range count {
		all = append(all, sample.Text(1000*seed+i, 64))
	}
	return all
}

// writes makes count writes at any of so many sectors, unlike from seed to seed.
func writes(seed, count, sectors int) (all []api.Write) {
	next := sample.Numbers(seed)
	for i := range count {
		all = append(all, api.Write{At: next() % sectors, Text: sample.Text(1000*seed+i+500, 64)})
	}
	return all
}

// disk makes one of so many sectors and so many writes, unlike from seed to seed.
func disk(seed, sectors, count int) api.Disk {
	return api.Disk{Sectors: texts(seed, sectors), Cache: writes(seed, count, sectors)}
}

// lost is a disk that is lost.
func lost() api.Disk { return api.Disk{Lost: true} }

// each calls do with disks of each kind of size: one sector to MaxSectors, no write to MaxCache.
func each(do func(d api.Disk)) {
	for _, sectors := range []int{1, 2, 3, 5, 24, 71, 72} {
		for _, count := range []int{0, 1, 2, 15, 16, 17, 33, 100, 255, 256} {
			do(disk(sectors+count, sectors, count))
		}
	}
}

// copyOf copies a disk with its lists.
func copyOf(d api.Disk) api.Disk {
	return api.Disk{Lost: d.Lost, Sectors: slices.Clone(d.Sectors), Cache: slices.Clone(d.Cache)}
}

// same asks whether two disks are one to whoever reads them: an empty list is none.
func same(a, b api.Disk) bool {
	return a.Lost == b.Lost && slices.Equal(a.Sectors, b.Sectors) && slices.Equal(a.Cache, b.Cache)
}

// settled works out apart from the program which texts last, sector by sector: the last write's there that lasts.
func settled(d api.Disk, lasts func(place int) bool) api.Disk {
	out := api.Disk{Sectors: slices.Clone(d.Sectors)}
	for at := range out.Sectors {
		for place := len(d.Cache) - 1; place >= 0; place-- {
			if d.Cache[place].At == at && lasts(place) {
				out.Sectors[at] = d.Cache[place].Text
				break
			}
		}
	}
	return out
}

// flushed works a flushed disk out apart from the program.
func flushed(d api.Disk) api.Disk {
	return settled(d, func(int) bool { return true })
}

// crashed works a crashed disk out apart from the program: bit by bit, each of the sixteen a number of its own.
func crashed(d api.Disk, keep int) api.Disk {
	var bits [16]bool
	for bit := range bits {
		bits[bit] = keep&(1<<bit) != 0
	}
	return settled(d, func(place int) bool {
		for place >= 16 {
			place -= 16
		}
		return bits[place]
	})
}

// readOf works out apart from the program what is read.
func readOf(d api.Disk, at int) string {
	return flushed(d).Sectors[at]
}

// rotten works out apart from the program a disk of which one byte of what lasts is turned: bit by bit.
func rotten(d api.Disk, at, place, by int) api.Disk {
	out := copyOf(d)
	b := []byte(out.Sectors[at])
	for bit := range 8 {
		mask := byte(1) << bit
		if by&int(mask) == 0 {
			continue
		}
		if b[place]&mask != 0 {
			b[place] -= mask
		} else {
			b[place] += mask
		}
	}
	out.Sectors[at] = string(b)
	return out
}

// with tells a disk made another one by turn out of a right one.
func with(d api.Disk, turn func(x *api.Disk)) api.Disk {
	d = copyOf(d)
	turn(&d)
	return d
}

func wantDisk(t *testing.T, about string, got api.Disk, err api.Errno, want api.Disk) {
	t.Helper()
	if !same(got, want) || err != api.OK {
		t.Fatalf("%s: %#v, %d; want %#v, %d", about, got, err, want, api.OK)
	}
}

func wantNoDisk(t *testing.T, about string, got api.Disk, err, want api.Errno) {
	t.Helper()
	if !same(got, api.Disk{}) || err != want {
		t.Fatalf("%s: %#v, %d; want none, %d", about, got, err, want)
	}
}

func wantRead(t *testing.T, about string, d api.Disk, at int, want string) {
	t.Helper()
	if got, err := Read(d, at); got != want || err != api.OK {
		t.Fatalf("%s: sector %d: %#v, %d; want %#v, %d", about, at, got, err, want, api.OK)
	}
}

func wantNoRead(t *testing.T, about string, d api.Disk, at int, want api.Errno) {
	t.Helper()
	if got, err := Read(d, at); got != "" || err != want {
		t.Fatalf("%s: sector %d: %#v, %d; want none, %d", about, at, got, err, want)
	}
}

// wantRefused asks all calls but Lose, with what is right beside the disk and with what isn't, for one error.
func wantRefused(t *testing.T, about string, d api.Disk, want api.Errno) {
	t.Helper()
	for _, at := range []int{0, 1, 71, 72, -1} {
		wantNoRead(t, about, d, at, want)
		got, err := Write(d, at, sample.Text(1, 64))
		wantNoDisk(t, about+": Write", got, err, want)
		got, err = Write(d, at, "short")
		wantNoDisk(t, about+": Write", got, err, want)
		got, err = Rot(d, at, 0, 1)
		wantNoDisk(t, about+": Rot", got, err, want)
		got, err = Rot(d, at, 64, 0)
		wantNoDisk(t, about+": Rot", got, err, want)
	}
	got, err := Flush(d)
	wantNoDisk(t, about+": Flush", got, err, want)
	for _, keep := range []int{0, 1, -1} {
		got, err = Crash(d, keep)
		wantNoDisk(t, about+": Crash", got, err, want)
	}
}

// lengths tells how long a text may be that is no sector's.
func lengths() []int {
	return []int{0, 1, 32, 63, 65, 96, 127, 128, 256, 4096, 1 << 16}
}

// nowheres tells numbers that no sector of a disk of so many has.
func nowheres(sectors int) []int {
	return []int{
		-1, -2, -sectors, -64, -1 << 31, -1 << 32, math.MinInt, math.MinInt + 1,
		sectors, sectors + 1, 2 * sectors, 72, 73, 1 << 31, 1 << 32, 1 << 58, math.MaxInt - 1, math.MaxInt,
	}
}

// P13.1, P13.2: the numbers that the chapter names.
func TestNumbers(t *testing.T) {
	if api.Sector != 64 || api.MaxSectors != 72 || api.MaxCache != 256 {
		t.Fatal("the numbers of package api are not the document's")
	}
	if api.OK != 0 || api.ErrDiskForm != 1300 || api.ErrDiskLost != 1301 {
		t.Fatal("the errors of package api are not the document's")
	}
}

// P13.1: a new disk of each number of sectors: all bytes 0, no writes.
func TestNew(t *testing.T) {
	for sectors := 1; sectors <= 72; sectors++ {
		d, err := New(sectors)
		wantDisk(t, "P13.1: new", d, err, api.Disk{Sectors: slices.Repeat([]string{strings.Repeat("\x00", 64)}, sectors)})
		if !May(d) {
			t.Fatalf("P13.1: %d sectors: a new disk may not be", sectors)
		}
		for at := range sectors {
			wantRead(t, "P13.1: new", d, at, strings.Repeat("\x00", 64))
		}
	}
}

// P13.1: fewer sectors than 1, more than MaxSectors.
func TestNewOfNone(t *testing.T) {
	for _, sectors := range []int{0, -1, -2, -72, -1 << 31, -1 << 32, math.MinInt, math.MinInt + 1, 73, 74, 144, 256, 1 << 31, 1 << 32, 1<<32 + 1, 1 << 62, math.MaxInt} {
		d, err := New(sectors)
		wantNoDisk(t, "P13.1: no number of sectors", d, err, api.ErrDiskForm)
	}
}

// P13.1: disks that may be, of each number of sectors and of writes.
func TestMay(t *testing.T) {
	for sectors := 1; sectors <= 72; sectors++ {
		if !May(disk(sectors, sectors, sectors%5)) {
			t.Fatalf("P13.1: %d sectors may not be", sectors)
		}
	}
	for count := range 257 {
		if !May(disk(count, 3, count)) {
			t.Fatalf("P13.1: %d writes may not be", count)
		}
	}
	for at := range 72 {
		if !May(api.Disk{Sectors: texts(1, 72), Cache: []api.Write{{At: at, Text: sample.Text(2, 64)}}}) {
			t.Fatalf("P13.1: a write at sector %d may not be", at)
		}
	}
	if !May(lost()) || !May(api.Disk{Lost: true, Sectors: []string{}, Cache: []api.Write{}}) {
		t.Fatal("P13.1: a lost disk may not be")
	}
}

// nobodies tells disks that may not be.
func nobodies() (none []api.Disk) {
	none = append(none, api.Disk{}, api.Disk{Sectors: []string{}, Cache: []api.Write{}})
	none = append(none, api.Disk{Cache: []api.Write{{At: 0, Text: sample.Text(1, 64)}}})
	for _, sectors := range []int{1, 2, 72, 73} {
		none = append(none, api.Disk{Lost: true, Sectors: texts(1, sectors)})
		none = append(none, api.Disk{Lost: true, Sectors: texts(1, sectors), Cache: writes(1, 2, sectors)})
	}
	for _, count := range []int{1, 2, 256, 257} {
		none = append(none, api.Disk{Lost: true, Cache: writes(1, count, 72)})
	}
	none = append(none, api.Disk{Lost: true, Sectors: []string{""}}, api.Disk{Lost: true, Cache: []api.Write{{}}})
	for _, sectors := range []int{73, 74, 144, 1000} {
		none = append(none, disk(2, sectors, 0), disk(2, sectors, 3))
	}
	for _, count := range []int{257, 258, 512, 1000} {
		none = append(none, disk(3, 2, count), disk(3, 72, count))
	}
	return slices.Concat(none, withOneWrong(1, 1), withOneWrong(2, 3), withOneWrong(72, 256))
}

// withOneWrong tells disks that may not be for one of their sectors or one of their writes alone.
func withOneWrong(sectors, count int) (none []api.Disk) {
	d := disk(4, sectors, count)
	for _, length := range lengths() {
		for _, at := range []int{0, sectors / 2, sectors - 1} {
			none = append(none, with(d, func(x *api.Disk) { x.Sectors[at] = sample.Text(5, length) }))
			none = append(none, with(d, func(x *api.Disk) { x.Sectors[at], x.Cache = sample.Text(5, length), nil }))
		}
		for _, place := range []int{0, count / 2, count - 1} {
			none = append(none, with(d, func(x *api.Disk) { x.Cache[place].Text = sample.Text(5, length) }))
		}
	}
	for _, at := range nowheres(sectors) {
		for _, place := range []int{0, count / 2, count - 1} {
			none = append(none, with(d, func(x *api.Disk) { x.Cache[place].At = at }))
		}
	}
	return none
}

// P13.1: disks that may not be.
func TestMayNot(t *testing.T) {
	for i, d := range nobodies() {
		if May(d) {
			t.Fatalf("P13.1: disk %d may be: %#v", i, d)
		}
	}
	letters := strings.Repeat("ä", 64)
	if May(api.Disk{Sectors: []string{letters}}) || !May(api.Disk{Sectors: []string{letters[:64]}}) {
		t.Fatal("P13.1: letters are not counted, bytes are")
	}
}

// P13.1, P13.2: a disk that may not be is refused by all calls.
func TestNobodiesRefused(t *testing.T) {
	for _, d := range nobodies() {
		wantRefused(t, "P13.1: may not be", d, api.ErrDiskForm)
		got, err := Lose(d)
		wantNoDisk(t, "P13.2: Lose of what may not be", got, err, api.ErrDiskForm)
	}
}

// P13.1, P13.2: a lost disk is refused as lost by all calls but Lose, whatever else would be wrong.
func TestLostRefused(t *testing.T) {
	for _, d := range []api.Disk{lost(), {Lost: true, Sectors: []string{}, Cache: []api.Write{}}, {Lost: true, Sectors: texts(1, 3)[:0], Cache: writes(1, 3, 3)[:0]}} {
		wantRefused(t, "P13.1: lost", d, api.ErrDiskLost)
		got, err := Lose(d)
		wantDisk(t, "P13.2: Lose of a lost one", got, err, lost())
	}
}

// P13.1: what is read of each sector, with no write to it, with one, with several, with others behind them.
func TestRead(t *testing.T) {
	each(func(d api.Disk) {
		for at := range d.Sectors {
			wantRead(t, "P13.1: read", d, at, readOf(d, at))
		}
	})
	d := api.Disk{Sectors: []string{letter('x'), letter('y'), letter('z')}}
	for _, step := range []struct {
		at           int
		what         byte
		zero, one, z string
	}{
		{1, 'a', "x", "a", "z"}, {0, 'b', "b", "a", "z"}, {1, 'c', "b", "c", "z"}, {1, 'd', "b", "d", "z"}, {0, 'e', "e", "d", "z"}, {0, 'b', "b", "d", "z"},
	} {
		d.Cache = append(d.Cache, api.Write{At: step.at, Text: letter(step.what)})
		wantRead(t, "P13.1: read, written out", d, 0, letter(step.zero[0]))
		wantRead(t, "P13.1: read, written out", d, 1, letter(step.one[0]))
		wantRead(t, "P13.1: read, written out", d, 2, letter(step.z[0]))
	}
}

// P13.1: each sector's one write of 256 is found at each place of the row.
func TestReadAtEachPlace(t *testing.T) {
	for place := range 256 {
		d := api.Disk{Sectors: texts(1, 2)}
		for i := range 256 {
			d.Cache = append(d.Cache, api.Write{At: 0, Text: sample.Text(i, 64)})
		}
		d.Cache[place].At = 1
		wantRead(t, "P13.1: each place", d, 1, sample.Text(place, 64))
	}
}

// P13.1: a sector that is not there.
func TestReadOfNowhere(t *testing.T) {
	each(func(d api.Disk) {
		for _, at := range nowheres(len(d.Sectors)) {
			wantNoRead(t, "P13.1: nowhere", d, at, api.ErrDiskForm)
		}
	})
}

// P13.1: what was handed in, with one more write behind the others.
func TestWrite(t *testing.T) {
	each(func(d api.Disk) {
		if len(d.Cache) == 256 {
			return
		}
		for at := range d.Sectors {
			want := with(d, func(x *api.Disk) { x.Cache = append(x.Cache, api.Write{At: at, Text: sample.Text(at, 64)}) })
			got, err := Write(d, at, sample.Text(at, 64))
			wantDisk(t, "P13.1: write", got, err, want)
		}
	})
}

// P13.1: writes one behind the other, up to MaxCache of them, and no more then.
func TestWriteUpToFull(t *testing.T) {
	d, want := disk(1, 3, 0), disk(1, 3, 0)
	for i, w := range writes(7, 256, 3) {
		got, err := Write(d, w.At, w.Text)
		want.Cache = append(want.Cache, w)
		wantDisk(t, "P13.1: up to full", got, err, want)
		if d = got; !May(d) {
			t.Fatalf("P13.1: %d writes may not be", i+1)
		}
	}
	for at := range 3 {
		got, err := Write(d, at, sample.Text(1, 64))
		wantNoDisk(t, "P13.1: full", got, err, api.ErrDiskForm)
	}
	d, _ = Flush(d)
	got, err := Write(d, 2, sample.Text(1, 64))
	wantDisk(t, "P13.1: flushed, there is room", got, err, api.Disk{Sectors: d.Sectors, Cache: []api.Write{{At: 2, Text: sample.Text(1, 64)}}})
}

// P13.1: the same bytes as those that are there are one more write, too.
func TestWriteOfTheSame(t *testing.T) {
	d := disk(1, 2, 0)
	for count := 1; count <= 3; count++ {
		got, err := Write(d, 1, d.Sectors[1])
		wantDisk(t, "P13.1: the same bytes", got, err, api.Disk{Sectors: d.Sectors, Cache: slices.Repeat([]api.Write{{At: 1, Text: d.Sectors[1]}}, count)})
		d = got
	}
}

// P13.1: a sector that is not there, a text of another length.
func TestWriteOfNone(t *testing.T) {
	each(func(d api.Disk) {
		for _, at := range nowheres(len(d.Sectors)) {
			got, err := Write(d, at, sample.Text(1, 64))
			wantNoDisk(t, "P13.1: write nowhere", got, err, api.ErrDiskForm)
		}
		for _, length := range lengths() {
			got, err := Write(d, len(d.Sectors)-1, sample.Text(1, length))
			wantNoDisk(t, "P13.1: write of another length", got, err, api.ErrDiskForm)
		}
	})
	for length := range 200 {
		if length != 64 {
			got, err := Write(disk(1, 2, 1), 0, sample.Text(1, length))
			wantNoDisk(t, "P13.1: write of another length", got, err, api.ErrDiskForm)
		}
	}
	got, err := Write(disk(1, 2, 1), 0, strings.Repeat("ä", 64))
	wantNoDisk(t, "P13.1: letters are not counted", got, err, api.ErrDiskForm)
}

// P13.1: all writes last, in their row; none is left.
func TestFlush(t *testing.T) {
	each(func(d api.Disk) {
		got, err := Flush(d)
		wantDisk(t, "P13.1: flush", got, err, flushed(d))
		again, err := Flush(got)
		wantDisk(t, "P13.1: flushed again", again, err, flushed(d))
		for at := range d.Sectors {
			wantRead(t, "P13.1: flushed, read", got, at, readOf(d, at))
		}
	})
}

// letter makes a sector's text of one letter.
func letter(c byte) string { return strings.Repeat(string([]byte{c}), 64) }

// drawn makes a new disk with one write of each letter from a on, at the sectors that ats tells in digits.
func drawn(sectors int, ats string) api.Disk {
	d := api.Disk{Sectors: slices.Repeat([]string{letter('.')}, sectors)}
	for i := range len(ats) {
		d.Cache = append(d.Cache, api.Write{At: int(ats[i] - '0'), Text: letter('a' + byte(i))})
	}
	return d
}

// draw makes a disk without writes whose sectors are of these letters.
func draw(letters string) (d api.Disk) {
	for i := range len(letters) {
		d.Sectors = append(d.Sectors, letter(letters[i]))
	}
	return d
}

// P13.2: what lasts, written out, worked out by a script apart from the program.
func TestKnownCrashes(t *testing.T) {
	for _, known := range []struct {
		sectors int
		ats     string
		keep    int
		want    string
	}{
		{1, "", -1, "."},
		{1, "0", 0x0, "."},
		{1, "0", 0x1, "a"},
		{1, "0", 0x2, "."},
		{3, "0121", 0x1, "a.."},
		{3, "0121", 0x2, ".b."},
		{3, "0121", 0x8, ".d."},
		{3, "0121", 0xa, ".d."},
		{3, "0121", 0x7, "abc"},
		{3, "0121", 0xf, "adc"},
		{2, "0101010101010101", 0x8000, ".p"},
		{2, "0101010101010101", 0x4000, "o."},
		{2, "0101010101010101", 0x10000, ".."},
		{2, "0101010101010101", 0xffff, "op"},
		{2, "01010101010101010", 0x8001, "qp"},
		{2, "01010101010101010", 0xfffe, "op"},
		{2, "01010101010101010", 0x1, "q."},
		{4, "01230123012301230123012", 0x5, "q.s."},
		{4, "01230123012301230123012", 0x78, "uvwt"},
		{4, "01230123012301230123012", 0x7f, "uvwt"},
		{4, "01230123012301230123012", 0xff80, "mnop"},
		{4, "01230123012301230123012", 0x5555, "u.w."},
		{5, "3141421313234240413210", 0x1234, "vufsm"},
		{5, "3141421313234240413210", 0xa0a, ".rtl."},
		{5, "3141421313234240413210", 0xff0000, "....."},
		{5, "3141421313234240413210", -1, "vutsq"},
		{5, "3141421313234240413210", -2, "vutso"},
		{5, "3141421313234240413210", -65536, "....."},
		{5, "3141421313234240413210", -32768, "p...."},
		{5, "3141421313234240413210", 0x10021, "v.faq"},
	} {
		got, err := Crash(drawn(known.sectors, known.ats), known.keep)
		wantDisk(t, "P13.2: written out", got, err, draw(known.want))
	}
}

// keeps tells numbers of bits: each alone, each but one, none, all, any.
func keeps(seed int) []int {
	next := sample.Numbers(seed)
	all := []int{0, 0xffff, 0x5555, 0xaaaa, 0x00ff, 0xff00, -1, math.MaxInt, math.MinInt, 1 << 16, 0xffff << 16}
	for bit := range 16 {
		all = append(all, 1<<bit, 0xffff&^(1<<bit), next())
	}
	return all
}

// P13.2: of each number of bits just those writes last that are meant, in their row; none is left.
func TestCrash(t *testing.T) {
	each(func(d api.Disk) {
		for _, keep := range keeps(len(d.Cache)) {
			got, err := Crash(d, keep)
			wantDisk(t, "P13.2: crash", got, err, crashed(d, keep))
		}
	})
}

// P13.2: all numbers of sixteen bits, of writes to few sectors, more than sixteen of them.
func TestCrashOfAllBits(t *testing.T) {
	d := drawn(4, "0123321001201332011030")
	for keep := range 1 << 16 {
		got, err := Crash(d, keep)
		wantDisk(t, "P13.2: all bits", got, err, crashed(d, keep))
	}
}

// P13.2: bits from the seventeenth on tell of nothing.
func TestCrashOfHigherBits(t *testing.T) {
	d := disk(9, 5, 100)
	for bit := 16; bit < 64; bit++ {
		got, err := Crash(d, 1<<bit)
		wantDisk(t, "P13.2: a higher bit", got, err, api.Disk{Sectors: d.Sectors})
		got, err = Crash(d, 1<<bit|0x0421)
		wantDisk(t, "P13.2: a higher bit beside", got, err, crashed(d, 0x0421))
	}
}

// P13.2: one write alone, at each place, whose bit alone is set, and whose bit alone isn't.
func TestCrashOfEachPlace(t *testing.T) {
	for place := range 256 {
		d := api.Disk{Sectors: texts(1, 2)}
		for i := range 256 {
			d.Cache = append(d.Cache, api.Write{At: 0, Text: sample.Text(i, 64)})
		}
		d.Cache[place].At = 1
		got, err := Crash(d, 1<<(place%16))
		wantDisk(t, "P13.2: its bit", got, err, crashed(d, 1<<(place%16)))
		if got.Sectors[1] != sample.Text(place, 64) {
			t.Fatalf("P13.2: write %d doesn't last", place)
		}
		got, _ = Crash(d, ^(1 << (place % 16)))
		if got.Sectors[1] != d.Sectors[1] {
			t.Fatalf("P13.2: write %d lasts", place)
		}
	}
}

// P13.2: each place of a sector, each number of bits to turn.
func TestRotOfEachByte(t *testing.T) {
	d := disk(1, 2, 3)
	for place := range 64 {
		for by := 1; by <= 255; by++ {
			got, err := Rot(d, 1, place, by)
			wantDisk(t, "P13.2: rot", got, err, rotten(d, 1, place, by))
		}
	}
	for b := range 256 {
		d.Sectors[0] = letter(byte(b))
		for by := 1; by <= 255; by++ {
			got, err := Rot(d, 0, by%64, by)
			wantDisk(t, "P13.2: rot of each byte", got, err, rotten(d, 0, by%64, by))
		}
	}
}

// P13.2: each sector rots, and what is written there stays as it is and is read.
func TestRotOfEachSector(t *testing.T) {
	each(func(d api.Disk) {
		for at := range d.Sectors {
			got, err := Rot(d, at, 7*at%64, 1+at)
			want := rotten(d, at, 7*at%64, 1+at)
			wantDisk(t, "P13.2: rot of each sector", got, err, want)
			wantRead(t, "P13.2: rotten, read", got, at, readOf(want, at))
			back, err := Rot(got, at, 7*at%64, 1+at)
			wantDisk(t, "P13.2: turned twice", back, err, d)
		}
	})
	d := api.Disk{Sectors: []string{letter('x')}, Cache: []api.Write{{At: 0, Text: letter('a')}}}
	got, err := Rot(d, 0, 0, 1)
	wantDisk(t, "P13.2: written out", got, err, api.Disk{Sectors: []string{"y" + letter('x')[1:]}, Cache: d.Cache})
	wantRead(t, "P13.2: the write is read", got, 0, letter('a'))
	got, err = Crash(got, 0)
	wantDisk(t, "P13.2: the write lost", got, err, api.Disk{Sectors: []string{"y" + letter('x')[1:]}})
}

// P13.2: no such sector, no such place, nothing to turn or too much.
func TestRotOfNone(t *testing.T) {
	each(func(d api.Disk) {
		for _, at := range nowheres(len(d.Sectors)) {
			got, err := Rot(d, at, 0, 1)
			wantNoDisk(t, "P13.2: rot nowhere", got, err, api.ErrDiskForm)
		}
		for _, place := range []int{-1, -2, -64, math.MinInt, math.MinInt + 1, 64, 65, 128, 1 << 32, 1 << 62, math.MaxInt} {
			got, err := Rot(d, 0, place, 1)
			wantNoDisk(t, "P13.2: rot at no place", got, err, api.ErrDiskForm)
		}
		for _, by := range []int{0, -1, -2, -255, -256, math.MinInt, math.MinInt + 1, 256, 257, 511, 512, 1 << 32, 1<<32 + 1, math.MaxInt} {
			got, err := Rot(d, 0, 0, by)
			wantNoDisk(t, "P13.2: rot by none", got, err, api.ErrDiskForm)
		}
	})
}

// P13.2: what is left of each disk that may be.
func TestLose(t *testing.T) {
	each(func(d api.Disk) {
		got, err := Lose(d)
		wantDisk(t, "P13.2: lose", got, err, lost())
		if !May(got) {
			t.Fatal("P13.2: a lost disk may not be")
		}
	})
}

// P13.1, P13.2: many steps by chance, each held against what is worked out apart from the program.
func TestManySteps(t *testing.T) {
	next := sample.Numbers(13)
	for round := range 40 {
		sectors := 1 + next()%6
		d, _ := New(sectors)
		want := draw(strings.Repeat("\x00", sectors))
		for range 200 {
			at, place, by, s := next()%sectors, next()%64, 1+next()%255, sample.Text(next(), 64)
			var err api.Errno
			switch kind := next() % 40; {
			case kind == 0:
				d, err = Flush(d)
				want = flushed(want)
			case kind == 1:
				d, err = Crash(d, by)
				want = crashed(want, by)
			case kind < 8:
				d, err = Rot(d, at, place, by)
				want = rotten(want, at, place, by)
			default:
				d, err = Write(d, at, s)
				want.Cache = append(want.Cache, api.Write{At: at, Text: s})
			}
			wantDisk(t, "P13.1: many steps", d, err, want)
			wantRead(t, "P13.1: many steps", d, at, readOf(want, at))
		}
		if !May(d) {
			t.Fatalf("P13.1: round %d: may not be", round)
		}
	}
}

// R1: very long texts and lists end too.
func TestVeryLong(t *testing.T) {
	long := strings.Repeat("x", 1<<22)
	got, err := Write(disk(1, 2, 2), 0, long)
	wantNoDisk(t, "R1: a very long text", got, err, api.ErrDiskForm)
	for _, d := range []api.Disk{
		{Sectors: []string{long}}, {Sectors: slices.Repeat([]string{letter('x')}, 1<<20)},
		{Sectors: texts(1, 1), Cache: []api.Write{{At: 0, Text: long}}}, {Sectors: texts(1, 1), Cache: make([]api.Write, 1<<20)},
		{Lost: true, Sectors: make([]string, 1<<20)}, {Lost: true, Cache: make([]api.Write, 1<<20)},
	} {
		if May(d) {
			t.Fatal("R1: a very long disk may be")
		}
		wantRefused(t, "R1: very long", d, api.ErrDiskForm)
	}
}

// roomy is a disk like d whose lists have spare room, written in.
func roomy(d api.Disk) api.Disk {
	d.Sectors = append(slices.Clone(d.Sectors), "spare", "", letter('s'))[:len(d.Sectors)]
	d.Cache = append(slices.Clone(d.Cache), api.Write{At: -7, Text: "spare"}, api.Write{}, api.Write{Text: letter('s')})[:len(d.Cache)]
	return d
}

// room is all of a disk's lists, their spare room too.
func room(d api.Disk) api.Disk {
	return api.Disk{Lost: d.Lost, Sectors: d.Sectors[:cap(d.Sectors)], Cache: d.Cache[:cap(d.Cache)]}
}

// asked calls all calls with a disk, right and wrong, and tells the disks that they answer.
func asked(d api.Disk) (answers []api.Disk) {
	add := func(x api.Disk, err api.Errno) { answers = append(answers, x) }
	for at := range max(len(d.Sectors), 1) {
		add(Write(d, at, sample.Text(at, 64)))
		add(Rot(d, at, at%64, 1+at))
	}
	add(Write(d, len(d.Sectors), sample.Text(1, 64)))
	add(Write(d, 0, sample.Text(1, 63)))
	add(Rot(d, 0, 0, 256))
	add(Flush(d))
	for _, keep := range []int{0, 0xffff, 0x1248, -1} {
		add(Crash(d, keep))
	}
	add(Lose(d))
	Read(d, 0)
	Read(d, -1)
	May(d)
	return answers
}

// R4: what is handed in is as it was, its spare room too, whether it is taken or refused.
func TestHandedInStays(t *testing.T) {
	stays := func(d api.Disk) {
		d = roomy(d)
		before := copyOf(room(d))
		asked(d)
		if !same(room(d), before) {
			t.Fatalf("R4: %#v; before %#v", room(d), before)
		}
	}
	each(stays)
	for _, d := range append(nobodies(), lost()) {
		stays(d)
	}
}

// overwrite writes over all of a disk's lists and their spare room.
func overwrite(d api.Disk) {
	d = room(d)
	for i := range d.Sectors {
		d.Sectors[i] = "written over"
	}
	for i := range d.Cache {
		d.Cache[i] = api.Write{At: -1, Text: "written over"}
	}
}

// R4: what is answered, written over, turns neither what was handed in nor another answer.
func TestAnswersApart(t *testing.T) {
	each(func(d api.Disk) {
		d = roomy(d)
		before := copyOf(room(d))
		var wants []api.Disk
		answers := asked(d)
		for _, x := range answers {
			wants = append(wants, copyOf(x))
		}
		for _, x := range asked(d) {
			overwrite(x)
		}
		for i, x := range answers {
			if !same(x, wants[i]) {
				t.Fatalf("R4: answer %d: %#v, behind others that were written over; want %#v", i, x, wants[i])
			}
			overwrite(x)
		}
		if !same(room(d), before) {
			t.Fatalf("R4: %#v, behind answers that were written over; before %#v", room(d), before)
		}
	})
}

// R4: what is handed in, written over behind a call, doesn't turn what was answered, and is not kept.
func TestHandedInNotKept(t *testing.T) {
	each(func(d api.Disk) {
		other := disk(99, len(d.Sectors), len(d.Cache))
		wants, others := asked(copyOf(d)), asked(copyOf(other))
		got := asked(d)
		copy(d.Sectors, other.Sectors)
		copy(d.Cache, other.Cache)
		again := asked(d)
		for i := range wants {
			if !same(got[i], wants[i]) {
				t.Fatalf("R4: answer %d: %#v, behind a disk that was written over; want %#v", i, got[i], wants[i])
			}
			if !same(again[i], others[i]) {
				t.Fatalf("R4: answer %d of a disk that was written over: %#v; want %#v", i, again[i], others[i])
			}
		}
	})
}

// R4: two new disks share no list.
func TestNewApart(t *testing.T) {
	one, _ := New(3)
	other, _ := New(3)
	overwrite(one)
	again, err := New(3)
	wantDisk(t, "R4: new, behind one that was written over", other, api.OK, draw("\x00\x00\x00"))
	wantDisk(t, "R4: new, behind one that was written over", again, err, draw("\x00\x00\x00"))
}

// bytesOf tells where the texts of a disk lie.
func bytesOf(d api.Disk) (at []*byte) {
	for _, s := range d.Sectors {
		at = append(at, unsafe.StringData(s))
	}
	for _, w := range d.Cache {
		at = append(at, unsafe.StringData(w.Text))
	}
	return at
}

// R4: the texts that are answered share no bytes with those that were handed in.
func TestTextsApart(t *testing.T) {
	d, s := disk(1, 5, 40), sample.Text(7, 64)
	given := append(bytesOf(d), unsafe.StringData(s))
	answers := asked(d)
	x, _ := Write(d, 1, s)
	for i, x := range append(answers, x) {
		for _, at := range bytesOf(x) {
			if slices.Contains(given, at) {
				t.Errorf("R4: answer %d: a text lies where one lies that was handed in", i)
			}
		}
	}
	for at := range d.Sectors {
		got, _ := Read(d, at)
		if slices.Contains(given, unsafe.StringData(got)) {
			t.Errorf("R4: what is read at %d lies where it lay", at)
		}
	}
}

// R5: the same again, whatever was asked between.
func TestAskedAgain(t *testing.T) {
	each(func(d api.Disk) {
		wants := asked(d)
		for _, other := range []api.Disk{lost(), {}, disk(1, 3, 3), disk(2, 73, 1)} {
			asked(other)
			for i, x := range asked(d) {
				if !same(x, wants[i]) {
					t.Fatalf("R5: answer %d: %#v; want %#v as ahead of it", i, x, wants[i])
				}
			}
		}
	})
}

// R5: the same of texts and lists that lie within others, whatever stands about them.
func TestWithinOthers(t *testing.T) {
	each(func(d api.Disk) {
		within := api.Disk{
			Sectors: slices.Concat([]string{"?"}, d.Sectors, []string{""})[1 : len(d.Sectors)+1],
			Cache:   slices.Concat([]api.Write{{At: -1}}, d.Cache, []api.Write{{At: 99}})[1 : len(d.Cache)+1],
		}
		for i, s := range within.Sectors {
			within.Sectors[i] = ("?" + s + "!")[1:65]
		}
		wants := asked(d)
		for i, x := range asked(within) {
			if !same(x, wants[i]) {
				t.Fatalf("R5: answer %d within others: %#v; want %#v", i, x, wants[i])
			}
		}
	})
}

// R5: the same from several goroutines at one time, of one disk.
func TestAtOneTime(t *testing.T) {
	d := roomy(disk(5, 6, 40))
	wants := asked(d)
	var group sync.WaitGroup
	for range 8 {
		group.Go(func() {
			for range 20 {
				for i, x := range asked(d) {
					if !same(x, wants[i]) {
						t.Errorf("R5: answer %d: not as when asked alone", i)
					}
				}
			}
		})
	}
	group.Wait()
}
