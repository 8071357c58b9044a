package little

import (
	"bytes"
	"encoding/binary"
	"math"
	"testing"

	"ossuary/sample"
)

// each calls do with numbers that each width of 1 to 8 bytes can hold: small ones, powers of 2 and what is beside them, any.
func each(do func(number, width int)) {
	next := sample.Numbers(14)
	for width := 1; width <= 8; width++ {
		bits := min(8*width, 63)
		for bit := range bits {
			do(1<<bit, width)
			do(1<<bit-1, width)
			do(next()<<31>>(62-bit), width)
		}
		do(math.MaxInt>>(63-bits), width)
	}
}

// The lowest byte stands first, behind what is there already.
func TestAppend(t *testing.T) {
	each(func(number, width int) {
		want := binary.LittleEndian.AppendUint64([]byte("ahead"), uint64(number))[:5+width]
		if got := Append([]byte("ahead"), number, width); !bytes.Equal(got, want) {
			t.Fatalf("%d in %d bytes: %#v; want %#v", number, width, got, want)
		}
	})
	if got := Append(nil, 0x0403020105, 4); string(got) != "\x05\x01\x02\x03" {
		t.Errorf("what four bytes cannot hold: %#v", got)
	}
	if got := Append(nil, 7, 0); len(got) != 0 {
		t.Errorf("in no byte: %#v", got)
	}
}

// What was written is read, and nothing that stands about it.
func TestNumber(t *testing.T) {
	each(func(number, width int) {
		s := string(Append([]byte("ahead"), number, width)) + "behind"
		if got := Number(s[5 : 5+width]); got != number {
			t.Fatalf("%d in %d bytes: read as %d", number, width, got)
		}
	})
	for s, want := range map[string]int{"": 0, "\x00": 0, "\xff": 255, "\x00\x01": 256, "\x01\x00": 1, "\xff\xff\xff\xff": 1<<32 - 1} {
		if got := Number(s); got != want {
			t.Errorf("%#v: %d; want %d", s, got, want)
		}
	}
}

// R1: however many bytes, and whatever number, both end.
func TestVeryLong(t *testing.T) {
	Number(string(make([]byte, 1<<20)))
	for _, number := range []int{-1, math.MinInt, math.MaxInt} {
		if got := Append(nil, number, 1<<20); len(got) != 1<<20 {
			t.Errorf("%d: %d bytes", number, len(got))
		}
	}
}
