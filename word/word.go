// Package word: numbers in bytes, fields of words: see ../shared/doc/01-word.md.
package word

const (
	wordBits = 32
	byteBits = 8
)

// U16 is the number of two bytes of b from at on, the least first.
func U16(b []byte, at int) uint16 {
	return uint16(number(b, at, 2))
}

// U32 is the number of four bytes of b from at on, the least first.
func U32(b []byte, at int) uint32 {
	return number(b, at, 4)
}

// Put16 is a copy of b with n's two bytes from at on, the least first.
func Put16(b []byte, at int, n uint16) []byte {
	return put(b, at, 2, uint32(n))
}

// Put32 is a copy of b with n's four bytes from at on, the least first.
func Put32(b []byte, at int, n uint32) []byte {
	return put(b, at, 4, n)
}

// Field is so many bits of n from bit at on, as a number.
func Field(n uint32, at, bits int) uint32 {
	w := width(at, bits)
	if w == 0 {
		return 0
	}
	return (n >> at) & lowest(w)
}

// Set is n with v's lowest bits where Field takes them.
func Set(n uint32, at, bits int, v uint32) uint32 {
	w := width(at, bits)
	if w == 0 {
		return n
	}
	mask := lowest(w)
	return n&^(mask<<at) | (v&mask)<<at
}

// Signed is the int32 of n's bits.
func Signed(n uint32) int32 {
	return int32(n)
}

// Dist is how far tail is ahead of head; both go round, so the difference does too.
func Dist(tail, head uint32) uint32 {
	return tail - head
}

func number(b []byte, at, size int) uint32 {
	var n uint32
	for i := range size {
		if there(b, at+i) {
			n |= uint32(b[at+i]) << (byteBits * i)
		}
	}
	return n
}

func put(b []byte, at, size int, n uint32) []byte {
	out := make([]byte, len(b))
	copy(out, b)
	for i := range size {
		if there(out, at+i) {
			out[at+i] = byte(n >> (byteBits * i))
		}
	}
	return out
}

// there needs no care for a sum that went round: past the greatest int it is far below 0, where no byte is either.
func there(b []byte, at int) bool {
	return 0 <= at && at < len(b)
}

// width is how many bits a field really has, 0 where it is none; a shift by at is safe where it isn't 0.
func width(at, bits int) int {
	if at < 0 || at >= wordBits || bits < 1 {
		return 0
	}
	return min(bits, wordBits-at)
}

// lowest is right for a whole word too: 1 is shifted out, and 0 less 1 goes round to all ones.
func lowest(bits int) uint32 {
	return uint32(1)<<bits - 1
}
