package notif_test

import (
	"fmt"
	"math"
	"slices"
	"testing"

	"ringkern/api"
	"ringkern/notif"
)

// far are numbers beyond every bound, some of which a difference, a change of sign, or a cut to fewer bits, would carry to one that is within.
func far() []int {
	return []int{math.MinInt, math.MinInt + 1, -1 << 62, -1<<32 + 1, -1 << 32, math.MinInt32, -1 << 16, -256, -255, -16, -2, -1,
		4, 8, 16, 255, 256, 257, 1 << 16, 1<<16 + 1, math.MaxInt32, 1 << 31, 1 << 32, 1<<32 + 1, 1 << 62, math.MaxInt - 1, math.MaxInt}
}

func id(ring, seq int) api.ID { return api.ID{Ring: ring, Seq: seq} }

// ids are IDs that differ in one number, in both, or have them the other way round.
func ids() []api.ID {
	var out []api.ID
	for _, n := range append(far(), 2, 3) {
		out = append(out, id(n, 0), id(0, n), id(n, 1), id(1, n), id(n, n))
	}
	for _, n := range []int{math.MinInt, -1, 2, math.MaxInt} {
		out = append(out, id(n, n-5), id(n, 3), id(3, n))
	}
	return append(out, id(0, 0), id(0, 1), id(1, 0), id(1, 1), id(2, 4), id(4, 2))
}

// words are words that have some bit: each one alone, all but each, and some.
func words() []uint32 {
	out := []uint32{math.MaxUint32, 3, 0x80000001, 0xffff, 0xffff0000, 0x55555555, 0xaaaaaaaa, 0x12345678}
	for i := range 32 {
		out = append(out, 1<<i, math.MaxUint32-1<<i)
	}
	return out
}

// model is what a notification should have: which bits, and who waits, one behind the other.
type model struct {
	bits  [32]bool
	waits []api.ID
}

func (m *model) word() (w uint32) {
	for i, is := range m.bits {
		if is {
			w += 1 << i
		}
	}
	return w
}

func (m *model) place(x api.ID) int {
	for i, y := range m.waits {
		if y.Ring == x.Ring && y.Seq == x.Seq {
			return i
		}
	}
	return -1
}

func (m *model) signal(bits uint32) woken {
	for i := range m.bits {
		if bits/(1<<i)%2 == 1 {
			m.bits[i] = true
		}
	}
	if len(m.waits) == 0 || m.word() == 0 {
		return woken{}
	}
	x, w := m.waits[0], m.word()
	m.drop(x)
	m.bits = [32]bool{}
	return woken{x, w, true}
}

func (m *model) wait(x api.ID) taken {
	if w := m.word(); w != 0 {
		m.bits = [32]bool{}
		return taken{w, true}
	}
	if m.place(x) < 0 {
		m.waits = append(m.waits, x)
	}
	return taken{}
}

func (m *model) drop(x api.ID) bool {
	at := m.place(x)
	if at < 0 {
		return false
	}
	var left []api.ID
	for i, y := range m.waits {
		if i != at {
			left = append(left, y)
		}
	}
	m.waits = left
	return true
}

// woken is what Signal tells.
type woken struct {
	id   api.ID
	word uint32
	is   bool
}

func toldWoken(x api.ID, word uint32, is bool) woken { return woken{x, word, is} }

// taken is what Wait tells.
type taken struct {
	word uint32
	is   bool
}

func toldTaken(word uint32, is bool) taken { return taken{word, is} }

// both is a notification and what it should have.
type both struct {
	notif *notif.Notif
	model model
}

// begin has these, that wait, in this order.
func begin(t *testing.T, l ...api.ID) *both {
	t.Helper()
	b := &both{notif: &notif.Notif{}}
	for _, x := range l {
		if b.wait(t, x).is {
			t.Fatal("Wait", x)
		}
	}
	return b
}

// five is several, whose numbers neither rise nor fall, with the one of zeros in their midst.
func five() []api.ID { return []api.ID{id(3, 1), id(1, 2), id(0, 0), id(-1, 5), id(2, 2)} }

func some(t *testing.T) *both {
	t.Helper()
	return begin(t, five()...)
}

func (b *both) signal(t *testing.T, bits uint32) woken {
	t.Helper()
	got := toldWoken(b.notif.Signal(bits))
	b.step(t, "Signal", bits, got, b.model.signal(bits))
	return got
}

func (b *both) wait(t *testing.T, x api.ID) taken {
	t.Helper()
	got := toldTaken(b.notif.Wait(x))
	b.step(t, "Wait", x, got, b.model.wait(x))
	return got
}

func (b *both) drop(t *testing.T, x api.ID) bool {
	t.Helper()
	got := b.notif.Drop(x)
	b.step(t, "Drop", x, got, b.model.drop(x))
	return got
}

// step holds an answer, and then all that can be asked, against the model, so that a refused call is seen to change nothing.
func (b *both) step(t *testing.T, call string, x, got, want any) {
	t.Helper()
	if got != want {
		t.Fatalf("%s(%v): %v, not %v", call, x, got, want)
	}
	b.check(t, call, x)
}

// check asks twice, as asking changes nothing.
func (b *both) check(t *testing.T, call string, x any) {
	t.Helper()
	for range 2 {
		if got, want := b.notif.Word(), b.model.word(); got != want {
			t.Fatalf("%s(%v): Word: %#x, not %#x", call, x, got, want)
		}
		if got := b.notif.Waits(); !slices.Equal(got, b.model.waits) {
			t.Fatalf("%s(%v): Waits: %v, not %v", call, x, got, b.model.waits)
		}
	}
}

// stands holds the word, and who waits, against what is written out, as the model could be wrong.
func (b *both) stands(t *testing.T, want string) {
	t.Helper()
	b.check(t, "at the end", "")
	if got := fmt.Sprint(b.notif.Word(), b.notif.Waits()); got != want {
		t.Errorf("there are %s, not %s", got, want)
	}
}

// ends wakes, or drops from the back, one behind the other, and holds what is left at each step against the model: what Waits shows could be right, and what is kept beside it wrong.
func (b *both) ends(t *testing.T, back bool) {
	t.Helper()
	for i := 0; len(b.model.waits) > 0; i++ {
		if back {
			b.drop(t, b.model.waits[len(b.model.waits)-1])
		} else {
			b.signal(t, words()[i%len(words())])
		}
	}
	b.wait(t, id(77, 77))
	b.drop(t, id(77, 77))
	if b.signal(t, 1).is || !b.wait(t, id(0, 0)).is {
		t.Error("somebody is left")
	}
	b.stands(t, "0 []")
}
