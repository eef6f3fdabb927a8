package word_test

import (
	"bytes"
	"math"
	"testing"

	"ringkern/word"
)

// The places that a sum with a small number might carry round, beside those around a short list's ends.
func places() []int {
	at := []int{math.MinInt, math.MinInt + 1, math.MinInt + 3, math.MinInt32, -1000, 1000, math.MaxInt32, math.MaxInt - 3, math.MaxInt - 1, math.MaxInt}
	for i := -6; i <= 14; i++ {
		at = append(at, i)
	}
	return at
}

func words() []uint32 {
	return []uint32{0, 1, 2, 7, 0x1234, 0x7fff, 0x8000, 0xffff, 0x10000, 0xdeadbeef, 0x55555555, 0xaaaaaaaa, 0x7fffffff, 0x80000000, 0x80000001, 0xfffffffe, 0xffffffff}
}

// counts are bits that a field is asked for.
func counts() []int {
	n := []int{math.MinInt, math.MinInt32, -1000, 1000, math.MaxInt32, math.MaxInt}
	for i := -3; i <= 36; i++ {
		n = append(n, i)
	}
	return n
}

// bitPlaces are the bits that a field is asked from.
func bitPlaces() []int { return counts() }

// ramp is n bytes that all differ, none of them 0.
func ramp(n int) []byte {
	b := make([]byte, n)
	for i := range b {
		b[i] = byte(0x91 + i)
	}
	return b
}

// wantNumber goes over the bytes of b, not over those of the number: it adds nothing to at that could go round.
func wantNumber(b []byte, at, size int) uint32 {
	var n uint32
	for i, x := range b {
		if at > -size && at <= i && i-at < size {
			n += uint32(x) << (8 * (i - at))
		}
	}
	return n
}

func wantPut(b []byte, at, size int, n uint32) []byte {
	var out []byte
	for i, x := range b {
		if at > -size && at <= i && i-at < size {
			x = byte(n >> (8 * (i - at)))
		}
		out = append(out, x)
	}
	return out
}

func TestP1_1Examples(t *testing.T) {
	b := []byte{0x01, 0x82, 0x03, 0x84, 0x05}
	for _, x := range []struct {
		at  int
		u16 uint16
		u32 uint32
	}{
		{0, 0x8201, 0x84038201},
		{1, 0x0382, 0x05840382},
		{2, 0x8403, 0x00058403},
		{3, 0x0584, 0x00000584},
		{4, 0x0005, 0x00000005},
		{5, 0, 0},
		{-1, 0x0100, 0x03820100},
		{-2, 0, 0x82010000},
		{-3, 0, 0x01000000},
		{-4, 0, 0},
	} {
		if got := word.U16(b, x.at); got != x.u16 {
			t.Errorf("U16 at %d: %#x, want %#x", x.at, got, x.u16)
		}
		if got := word.U32(b, x.at); got != x.u32 {
			t.Errorf("U32 at %d: %#x, want %#x", x.at, got, x.u32)
		}
	}
	for _, x := range []struct {
		at    int
		put16 []byte
		put32 []byte
	}{
		{0, []byte{0xcd, 0xab, 0x03, 0x84, 0x05}, []byte{0xcd, 0xab, 0x34, 0xf2, 0x05}},
		{1, []byte{0x01, 0xcd, 0xab, 0x84, 0x05}, []byte{0x01, 0xcd, 0xab, 0x34, 0xf2}},
		{3, []byte{0x01, 0x82, 0x03, 0xcd, 0xab}, []byte{0x01, 0x82, 0x03, 0xcd, 0xab}},
		{4, []byte{0x01, 0x82, 0x03, 0x84, 0xcd}, []byte{0x01, 0x82, 0x03, 0x84, 0xcd}},
		{5, b, b},
		{-1, []byte{0xab, 0x82, 0x03, 0x84, 0x05}, []byte{0xab, 0x34, 0xf2, 0x84, 0x05}},
		{-2, b, []byte{0x34, 0xf2, 0x03, 0x84, 0x05}},
		{-3, b, []byte{0xf2, 0x82, 0x03, 0x84, 0x05}},
		{-4, b, b},
	} {
		if got := word.Put16(b, x.at, 0xabcd); !bytes.Equal(got, x.put16) {
			t.Errorf("Put16 at %d: %x, want %x", x.at, got, x.put16)
		}
		if got := word.Put32(b, x.at, 0xf234abcd); !bytes.Equal(got, x.put32) {
			t.Errorf("Put32 at %d: %x, want %x", x.at, got, x.put32)
		}
	}
}

func TestP1_1EveryPlace(t *testing.T) {
	for size := range 10 {
		b := ramp(size)
		for _, at := range places() {
			if got, want := word.U16(b, at), uint16(wantNumber(b, at, 2)); got != want {
				t.Errorf("U16 of %d bytes at %d: %#x, want %#x", size, at, got, want)
			}
			if got, want := word.U32(b, at), wantNumber(b, at, 4); got != want {
				t.Errorf("U32 of %d bytes at %d: %#x, want %#x", size, at, got, want)
			}
			for _, n := range words() {
				if got, want := word.Put16(b, at, uint16(n)), wantPut(b, at, 2, n); !bytes.Equal(got, want) {
					t.Errorf("Put16 of %#x into %d bytes at %d: %x, want %x", uint16(n), size, at, got, want)
				}
				if got, want := word.Put32(b, at, n), wantPut(b, at, 4, n); !bytes.Equal(got, want) {
					t.Errorf("Put32 of %#x into %d bytes at %d: %x, want %x", n, size, at, got, want)
				}
			}
		}
		if !bytes.Equal(b, ramp(size)) {
			t.Errorf("%d bytes handed in were changed: %x", size, b)
		}
	}
}

func TestP1_1RoundTrip(t *testing.T) {
	b := ramp(9)
	for at := range 6 {
		for _, n := range words() {
			if got := word.U32(word.Put32(b, at, n), at); got != n {
				t.Errorf("U32 of Put32 of %#x at %d: %#x", n, at, got)
			}
			if got := word.U16(word.Put16(b, at, uint16(n)), at); got != uint16(n) {
				t.Errorf("U16 of Put16 of %#x at %d: %#x", uint16(n), at, got)
			}
		}
	}
}

func TestP1_1NilAndEmpty(t *testing.T) {
	for _, b := range [][]byte{nil, {}, ramp(4)[:0]} {
		for _, at := range places() {
			if word.U16(b, at) != 0 || word.U32(b, at) != 0 {
				t.Errorf("a number of no bytes at %d", at)
			}
			if len(word.Put16(b, at, 0xffff)) != 0 || len(word.Put32(b, at, 0xffffffff)) != 0 {
				t.Errorf("bytes put into none at %d", at)
			}
		}
	}
}

func TestP1_1BehindTheLength(t *testing.T) {
	whole := ramp(8)
	b := whole[:3]
	if got := word.U16(b, 2); got != 0x93 {
		t.Errorf("U16 reads behind the length: %#x", got)
	}
	if got := word.U32(b, 1); got != 0x9392 {
		t.Errorf("U32 reads behind the length: %#x", got)
	}
	for _, at := range places() {
		for _, got := range [][]byte{word.Put16(b, at, 0), word.Put32(b, at, 0)} {
			if len(got) != 3 {
				t.Errorf("put at %d: %d bytes, want 3", at, len(got))
			}
			_ = append(got, 0, 0, 0)
			fill(got[:cap(got)])
		}
	}
	if !bytes.Equal(whole, ramp(8)) {
		t.Errorf("put, or what is written into its answer, changed what was handed in: %x", whole)
	}
}

func TestP1_1AnswersApart(t *testing.T) {
	b := ramp(4)
	first, second := word.Put32(b, 9, 0), word.Put16(b, -9, 0)
	fill(first[:cap(first)])
	if !bytes.Equal(second, ramp(4)) || !bytes.Equal(b, ramp(4)) {
		t.Errorf("an answer shows what was written into another one: %x %x", second, b)
	}
	third := word.Put32(b, 9, 0)
	fill(b)
	if !bytes.Equal(third, ramp(4)) {
		t.Errorf("an answer shows what was written into what was handed in: %x", third)
	}
}

func fill(b []byte) {
	for i := range b {
		b[i] = 0x77
	}
}

// inField says whether a bit of a word is of the field; it adds nothing to at that could go round.
func inField(bit, at, bits int) bool {
	return 0 <= at && at <= bit && bit-at < bits
}

func wantField(n uint32, at, bits int) uint32 {
	var out uint32
	for bit := range 32 {
		if inField(bit, at, bits) && n&(1<<bit) != 0 {
			out += 1 << (bit - at)
		}
	}
	return out
}

func wantSet(n uint32, at, bits int, v uint32) uint32 {
	var out uint32
	for bit := range 32 {
		from, place := n, bit
		if inField(bit, at, bits) {
			from, place = v, bit-at
		}
		if from&(1<<place) != 0 {
			out += 1 << bit
		}
	}
	return out
}

func TestP1_2FieldExamples(t *testing.T) {
	for _, x := range []struct {
		n        uint32
		at, bits int
		want     uint32
	}{
		{0x1234, 4, 8, 0x23},
		{0xdeadbeef, 0, 32, 0xdeadbeef},
		{0xdeadbeef, 0, 33, 0xdeadbeef},
		{0xdeadbeef, 16, 16, 0xdead},
		{0xdeadbeef, 16, 17, 0xdead},
		{0xdeadbeef, 31, 1, 1},
		{0xdeadbeef, 31, math.MaxInt, 1},
		{0xdeadbeef, 32, 1, 0},
		{0xdeadbeef, math.MaxInt, math.MaxInt, 0},
		{0xdeadbeef, -1, 8, 0},
		{0xdeadbeef, math.MinInt, math.MaxInt, 0},
		{0xdeadbeef, 0, 1, 1},
		{0xdeadbeef, 0, 0, 0},
		{0xdeadbeef, 0, -1, 0},
		{0xdeadbeef, 0, math.MinInt, 0},
	} {
		if got := word.Field(x.n, x.at, x.bits); got != x.want {
			t.Errorf("Field(%#x, %d, %d): %#x, want %#x", x.n, x.at, x.bits, got, x.want)
		}
	}
}

func TestP1_2SetExamples(t *testing.T) {
	for _, x := range []struct {
		n        uint32
		at, bits int
		v, want  uint32
	}{
		{0x1234, 4, 8, 0xab, 0x1ab4},
		{0x1234, 4, 8, 0xfab, 0x1ab4},
		{0xffffffff, 4, 8, 0, 0xfffff00f},
		{0xdeadbeef, 0, 32, 0x12345678, 0x12345678},
		{0xdeadbeef, 0, math.MaxInt, 0x12345678, 0x12345678},
		{0xdeadbeef, 28, 99, 0x75, 0x5eadbeef},
		{0xdeadbeef, 31, 1, 2, 0x5eadbeef},
		{0xdeadbeef, 32, 1, 1, 0xdeadbeef},
		{0xdeadbeef, -1, 8, 0xff, 0xdeadbeef},
		{0xdeadbeef, math.MinInt, math.MaxInt, 0, 0xdeadbeef},
		{0xdeadbeef, 0, 0, 0, 0xdeadbeef},
		{0xdeadbeef, 0, -1, 0, 0xdeadbeef},
		{0xdeadbeef, 0, math.MinInt, 0, 0xdeadbeef},
	} {
		if got := word.Set(x.n, x.at, x.bits, x.v); got != x.want {
			t.Errorf("Set(%#x, %d, %d, %#x): %#x, want %#x", x.n, x.at, x.bits, x.v, got, x.want)
		}
	}
}

func TestP1_2EveryField(t *testing.T) {
	for _, at := range bitPlaces() {
		for _, bits := range counts() {
			for _, n := range words() {
				if got, want := word.Field(n, at, bits), wantField(n, at, bits); got != want {
					t.Errorf("Field(%#x, %d, %d): %#x, want %#x", n, at, bits, got, want)
				}
				for _, v := range words() {
					if got, want := word.Set(n, at, bits, v), wantSet(n, at, bits, v); got != want {
						t.Errorf("Set(%#x, %d, %d, %#x): %#x, want %#x", n, at, bits, v, got, want)
					}
				}
			}
		}
	}
}

func TestP1_3Signed(t *testing.T) {
	for n, want := range map[uint32]int32{
		0: 0, 1: 1, 7: 7, 0x7fffffff: math.MaxInt32,
		0x80000000: math.MinInt32, 0x80000001: math.MinInt32 + 1, 0xfffffff1: -15, 0xffffffff: -1,
	} {
		if got := word.Signed(n); got != want {
			t.Errorf("Signed(%#x): %d, want %d", n, got, want)
		}
	}
	for _, n := range words() {
		if got := uint32(word.Signed(n)); got != n {
			t.Errorf("Signed(%#x) has other bits: %#x", n, got)
		}
	}
}

func TestP1_3Dist(t *testing.T) {
	for _, x := range []struct{ tail, head, want uint32 }{
		{0, 0, 0},
		{5, 3, 2},
		{3, 5, 0xfffffffe},
		{0, 1, 0xffffffff},
		{0, 0xffffffff, 1},
		{2, 0xfffffffe, 4},
		{0xffffffff, 0, 0xffffffff},
		{0xffffffff, 0xffffffff, 0},
		{0x80000000, 0, 0x80000000},
		{0, 0x80000000, 0x80000000},
	} {
		if got := word.Dist(x.tail, x.head); got != x.want {
			t.Errorf("Dist(%#x, %#x): %#x, want %#x", x.tail, x.head, got, x.want)
		}
	}
	for _, tail := range words() {
		for _, head := range words() {
			if want := uint32((int64(tail) - int64(head) + 1<<32) % (1 << 32)); word.Dist(tail, head) != want {
				t.Errorf("Dist(%#x, %#x): %#x, want %#x", tail, head, word.Dist(tail, head), want)
			}
		}
	}
}
