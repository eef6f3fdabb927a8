package phys_test

import (
	"bytes"
	"math"
	"testing"

	"ringkern/api"
	"ringkern/phys"
)

const size = api.UnitSize

// far are numbers that no unit, no place and no count is, some of which a sum with another one would carry round.
func far() []int {
	return []int{math.MinInt, math.MinInt + 1, math.MinInt + size, math.MinInt32, -1 << 16, -size - 1, -size, -2, -1,
		size + 1, size + 2, 2 * size, 1 << 16, math.MaxInt32, 1 << 62, math.MaxInt - size, math.MaxInt - 1, math.MaxInt}
}

// offsets are those of a unit's ends, its middle, and all that are far.
func offsets() []int {
	return append(far(), 0, 1, 2, size/2-1, size/2, size/2+1, size-2, size-1, size)
}

func units() []int {
	return append(far(), 0, 1, 2, 3, 4, 5, api.MaxUnits, api.MaxUnits+1)
}

// pattern is a unit's bytes, none of them 0, other ones for each unit.
func pattern(unit int) []byte {
	b := make([]byte, size)
	for i := range b {
		b[i] = byte((i*7+unit*31)%251) + 1
	}
	return b
}

// filled is a memory of so many units, each of its pattern.
func filled(t *testing.T, n int) *phys.Mem {
	t.Helper()
	m := phys.New(n)
	for u := 1; u <= n; u++ {
		if !m.Write(u, 0, pattern(u)) {
			t.Fatalf("Write of all of unit %d of %d: false", u, n)
		}
	}
	return m
}

// model is what a memory should have, a unit a list.
type model [][]byte

func modelOf(n int) model {
	var w model
	for u := 1; u <= n; u++ {
		w = append(w, pattern(u))
	}
	return w
}

// covers goes over the bytes of a unit and counts, so that it adds nothing that could go round.
func (w model) covers(unit, off, n int) bool {
	if unit < 1 || unit > len(w) || off < 0 || n < 0 || n > size {
		return false
	}
	room := 0
	for i := range size {
		if i >= off {
			room++
		}
	}
	return off <= size && n <= room
}

func (w model) check(t *testing.T, m *phys.Mem, what ...any) {
	t.Helper()
	if m.Units() != len(w) {
		t.Fatal(append([]any{"Units", m.Units(), "not", len(w)}, what...)...)
	}
	for u := 1; u <= len(w); u++ {
		if !bytes.Equal(m.Bytes(u), w[u-1]) {
			t.Fatal(append([]any{"bytes of unit", u}, what...)...)
		}
	}
}

func TestP2_1Example(t *testing.T) {
	b, ok := phys.New(1).Read(1, 0, 4)
	if !ok || !bytes.Equal(b, []byte{0, 0, 0, 0}) {
		t.Error(b, ok)
	}
}

func TestP2_1NewTakesTheNearest(t *testing.T) {
	for n := -3; n <= api.MaxUnits+3; n++ {
		want := n
		if n < 1 {
			want = 1
		}
		if n > api.MaxUnits {
			want = api.MaxUnits
		}
		checkNew(t, n, want)
	}
	for _, n := range far() {
		if n < 0 {
			checkNew(t, n, 1)
		} else {
			checkNew(t, n, api.MaxUnits)
		}
	}
}

func checkNew(t *testing.T, n, want int) {
	t.Helper()
	m := phys.New(n)
	if m.Units() != want {
		t.Fatalf("New(%d) has %d units, not %d", n, m.Units(), want)
	}
	for u := 1; u <= want; u++ {
		if !bytes.Equal(m.Bytes(u), make([]byte, size)) {
			t.Fatalf("New(%d): unit %d isn't %d zeros", n, u, size)
		}
	}
	for _, u := range []int{-1, 0, want + 1, want + 2} {
		if len(m.Bytes(u)) != 0 || m.Zero(u) || m.Write(u, 0, nil) {
			t.Fatalf("New(%d) has a unit %d", n, u)
		}
	}
}

func TestP2_1ReadTellsWhatIsThere(t *testing.T) {
	m, w := filled(t, 3), modelOf(3)
	for _, u := range units() {
		for _, off := range offsets() {
			for _, n := range offsets() {
				got, ok := m.Read(u, off, n)
				if ok != w.covers(u, off, n) {
					t.Fatalf("Read(%d, %d, %d): %v", u, off, n, ok)
				}
				if !ok && len(got) != 0 {
					t.Fatalf("Read(%d, %d, %d): false, and %d bytes", u, off, n, len(got))
				}
				if ok && !bytes.Equal(got, w[u-1][off:off+n]) {
					t.Fatalf("Read(%d, %d, %d): %v", u, off, n, got)
				}
			}
		}
	}
	w.check(t, m, "after Read")
}

func TestP2_1ReadOfEveryPlace(t *testing.T) {
	m, w := filled(t, 2), modelOf(2)
	for off := 0; off <= size; off++ {
		for _, n := range []int{0, 1, 2, size - off - 1, size - off, size - off + 1} {
			got, ok := m.Read(2, off, n)
			if want := w.covers(2, off, n); ok != want || ok && !bytes.Equal(got, w[1][off:off+n]) {
				t.Fatalf("Read(2, %d, %d): %v %v", off, n, got, ok)
			}
		}
	}
}

func TestP2_1EdgesOfAUnit(t *testing.T) {
	m := filled(t, 2)
	for _, x := range []struct {
		unit, off, n int
		ok           bool
	}{
		{1, 0, 0, true}, {1, size, 0, true}, {1, size + 1, 0, false}, {1, -1, 0, false}, {1, -1, 1, false},
		{1, size - 1, 1, true}, {1, size - 1, 2, false}, {1, size, 1, false},
		{1, 0, size, true}, {1, 0, size + 1, false}, {1, 1, size, false}, {1, 1, size - 1, true},
		{1, 0, -1, false}, {1, size, -1, false}, {1, size + 1, -1, false},
		{0, 0, 0, false}, {3, 0, 0, false}, {-1, 0, 0, false}, {2, size, 0, true}, {0, size, 0, false},
	} {
		got, ok := m.Read(x.unit, x.off, x.n)
		if ok != x.ok || !ok && got != nil || ok && len(got) != x.n {
			t.Errorf("Read(%d, %d, %d): %d bytes, %v", x.unit, x.off, x.n, len(got), ok)
		}
		if x.n >= 0 && m.Write(x.unit, x.off, make([]byte, x.n)) != x.ok {
			t.Errorf("Write(%d, %d, %d bytes): not %v", x.unit, x.off, x.n, x.ok)
		}
	}
}

func TestP2_1WritePutsAllOrNothing(t *testing.T) {
	for _, u := range units() {
		for _, off := range offsets() {
			for _, n := range []int{0, 1, 2, size / 2, size/2 + 1, size - 1, size, size + 1, 2 * size} {
				m, w := filled(t, 3), modelOf(3)
				b := bytes.Repeat([]byte{0xfe}, n)
				ok := m.Write(u, off, b)
				if ok != w.covers(u, off, n) {
					t.Fatalf("Write(%d, %d, %d bytes): %v", u, off, n, ok)
				}
				if ok {
					copy(w[u-1][off:], b)
				}
				w.check(t, m, "after Write", u, off, n, ok)
			}
		}
	}
}

func TestP2_1WritePutsTheBytesInOrder(t *testing.T) {
	m := phys.New(2)
	if !m.Write(2, 5, []byte{1, 2, 3}) || !m.Write(2, 7, []byte{9, 8}) {
		t.Fatal("Write: false")
	}
	if got, ok := m.Read(2, 4, 6); !ok || !bytes.Equal(got, []byte{0, 1, 2, 9, 8, 0}) {
		t.Error(got, ok)
	}
	if !bytes.Equal(m.Bytes(1), make([]byte, size)) {
		t.Error("unit 1 shows what was written to unit 2")
	}
}

func TestP2_1NilIsTheEmptyList(t *testing.T) {
	m, w := filled(t, 1), modelOf(1)
	for _, off := range offsets() {
		for _, u := range []int{-1, 0, 1, 2} {
			if m.Write(u, off, nil) != m.Write(u, off, []byte{}) || m.Write(u, off, nil) != w.covers(u, off, 0) {
				t.Errorf("Write(%d, %d, nil)", u, off)
			}
		}
	}
	w.check(t, m, "after Write of nothing")
}

func TestP2_1ZeroOfOneUnit(t *testing.T) {
	for _, u := range units() {
		m, w := filled(t, 3), modelOf(3)
		ok := m.Zero(u)
		if ok != (1 <= u && u <= 3) {
			t.Errorf("Zero(%d): %v", u, ok)
		}
		if ok {
			w[u-1] = make([]byte, size)
		}
		w.check(t, m, "after Zero", u)
		if ok && (!m.Write(u, 3, []byte{4}) || m.Bytes(u)[3] != 4) {
			t.Errorf("nothing can be written after Zero(%d)", u)
		}
	}
}

func TestP2_1BytesOfOneUnit(t *testing.T) {
	m, w := filled(t, 3), modelOf(3)
	for _, u := range units() {
		got := m.Bytes(u)
		if 1 <= u && u <= 3 {
			if !bytes.Equal(got, w[u-1]) {
				t.Errorf("Bytes(%d)", u)
			}
		} else if len(got) != 0 {
			t.Errorf("Bytes(%d): %d bytes", u, len(got))
		}
	}
}

// scribble writes over all of a list, and over its spare room by what an append puts there.
func scribble(b []byte) {
	room := b[:cap(b)]
	for i := range room {
		room[i] = 0xee
	}
	_ = append(b, bytes.Repeat([]byte{0xdd}, 2*size)...)
}

func TestP2_1WhatIsHandedOutIsNew(t *testing.T) {
	m, w := filled(t, 3), modelOf(3)
	a, _ := m.Read(2, 10, 20)
	b, _ := m.Read(2, 10, 20)
	c, d := m.Bytes(2), m.Bytes(2)
	e, _ := m.Read(2, size, 0)
	scribble(a)
	scribble(c)
	scribble(e)
	if !bytes.Equal(b, w[1][10:30]) || !bytes.Equal(d, w[1]) {
		t.Error("one list handed out shows what was written into another one")
	}
	w.check(t, m, "after writing into what was handed out")
	kept := m.Bytes(2)
	m.Zero(2)
	m.Write(2, 0, []byte{1, 2, 3})
	if !bytes.Equal(kept, w[1]) || !bytes.Equal(b, w[1][10:30]) {
		t.Error("what was handed out shows a later Write or Zero")
	}
}

func TestP2_1WhatIsHandedInIsNotKept(t *testing.T) {
	m, w := filled(t, 2), modelOf(2)
	room := pattern(9)
	whole := bytes.Clone(room)
	b := room[:8]
	if !m.Write(1, 4, b) {
		t.Fatal("Write: false")
	}
	copy(w[0][4:], whole[:8])
	w.check(t, m, "after Write of a list with spare room")
	if !bytes.Equal(room, whole) {
		t.Error("Write changed what was handed in, or what lies behind it")
	}
	scribble(b)
	w.check(t, m, "after writing into what was handed in")
	handed := bytes.Clone(whole[:8])
	m.Write(2, 0, handed)
	m.Zero(2)
	m.Write(2, 0, []byte{5, 5})
	if !bytes.Equal(handed, whole[:8]) {
		t.Error("a later Zero or Write changed what was handed in")
	}
}

func TestP2_1ObjectsApart(t *testing.T) {
	a, b := filled(t, 2), phys.New(2)
	if !bytes.Equal(b.Bytes(1), make([]byte, size)) {
		t.Fatal("a new memory shows another one's bytes")
	}
	b.Write(1, 0, []byte{1})
	b.Zero(2)
	modelOf(2).check(t, a, "after calls on another memory")
	if phys.New(2).Bytes(1)[0] != 0 {
		t.Error("a new memory shows another one's bytes")
	}
}

// A long run of calls against the model: what a call answers hangs on those before it, on nothing else.
func TestP2_1ManyCalls(t *testing.T) {
	m, w := filled(t, 4), modelOf(4)
	x := uint32(12345)
	next := func(n int) int {
		x = x*1664525 + 1013904223
		return int(x>>8) % n
	}
	for step := range 20000 {
		u, off, n := next(6), next(size+3)-1, next(40)
		switch next(8) {
		case 0:
			if m.Zero(u) != w.covers(u, 0, 0) {
				t.Fatal(step, "Zero", u)
			}
			if w.covers(u, 0, 0) {
				clear(w[u-1])
			}
		case 1, 2, 3, 4:
			b := bytes.Repeat([]byte{byte(step)}, n)
			if m.Write(u, off, b) != w.covers(u, off, n) {
				t.Fatal(step, "Write", u, off, n)
			}
			if w.covers(u, off, n) {
				copy(w[u-1][off:], b)
			}
		default:
			got, ok := m.Read(u, off, n)
			if ok != w.covers(u, off, n) || ok && !bytes.Equal(got, w[u-1][off:off+n]) {
				t.Fatal(step, "Read", u, off, n)
			}
		}
	}
	w.check(t, m, "after many calls")
}
