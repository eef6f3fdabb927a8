package notif_test

import (
	"fmt"
	"math"
	"runtime"
	"slices"
	"testing"

	"ringkern/api"
	"ringkern/notif"
)

// draw is a row of numbers that look like none, the same at each run.
type draw uint64

func (d *draw) below(n int) int {
	*d ^= *d << 13
	*d ^= *d >> 7
	*d ^= *d << 17
	return int(uint64(*d) >> 11 % uint64(n))
}

// id is one of so few that calls meet each other, at times one far from all.
func (d *draw) id() api.ID {
	if d.below(15) == 0 {
		l := ids()
		return l[d.below(len(l))]
	}
	return []api.ID{id(0, 0), id(0, 1), id(1, 0), id(1, 1), id(2, 1), id(1, 2), id(-1, 1)}[d.below(7)]
}

// bits are none, few, or any.
func (d *draw) bits() uint32 {
	switch d.below(4) {
	case 0:
		return 0
	case 1:
		return uint32(d.below(1 << 32))
	}
	l := words()
	return l[d.below(len(l))]
}

// tally counts what the drawn calls came to: a test of them is worth little where some case never comes.
type tally map[string]int

// where says of one that goes, or that was to come again, where among those that wait it stands.
func (b *both) where(x api.ID) string {
	at := b.model.place(x)
	switch {
	case at < 0:
		return "none"
	case len(b.model.waits) == 1:
		return "the only one"
	case at == 0:
		return "the first"
	case at == len(b.model.waits)-1:
		return "the last"
	}
	return "in the midst"
}

// bitsOf says of a word whether it has some.
func bitsOf(w uint32) string {
	if w == 0 {
		return "no bits"
	}
	return "bits"
}

// act makes one call, and answers it with what it told.
func (d *draw) act(t *testing.T, b *both, n tally) string {
	t.Helper()
	x, bits, had := d.id(), d.bits(), bitsOf(b.model.word())
	var what, told string
	switch d.below(12) {
	case 0, 1, 2:
		what = fmt.Sprint("Signal of ", bitsOf(bits), ", of ", had, ", ", min(len(b.model.waits), 2), " wait: ")
		got := b.signal(t, bits)
		what, told = what+fmt.Sprint(got.is), fmt.Sprint(got)
	case 3, 4, 5:
		what = "Drop of " + b.where(x) + ", of " + had + ": "
		got := b.drop(t, x)
		what, told = what+fmt.Sprint(got), fmt.Sprint(x, got)
	default:
		what = "Wait of " + b.where(x) + ", of " + had + ": "
		got := b.wait(t, x)
		what, told = what+fmt.Sprint(got.is), fmt.Sprint(x, got)
	}
	n[what]++
	return what + " " + told
}

func TestP13_1DrawnCallsAgainstTheReference(t *testing.T) {
	n := tally{}
	for seed := 1; seed <= 150; seed++ {
		d, b := draw(seed*7919), begin(t)
		for range 150 {
			d.act(t, b, n)
		}
		b.ends(t, seed%2 == 0)
	}
	for _, what := range []string{
		"Signal of no bits, of no bits, 0 wait: false", "Signal of no bits, of no bits, 1 wait: false", "Signal of no bits, of no bits, 2 wait: false",
		"Signal of no bits, of bits, 0 wait: false", "Signal of bits, of bits, 0 wait: false", "Signal of bits, of no bits, 0 wait: false",
		"Signal of bits, of no bits, 1 wait: true", "Signal of bits, of no bits, 2 wait: true",
		"Wait of none, of no bits: false", "Wait of the only one, of no bits: false", "Wait of the first, of no bits: false",
		"Wait of in the midst, of no bits: false", "Wait of the last, of no bits: false", "Wait of none, of bits: true",
		"Drop of none, of no bits: false", "Drop of none, of bits: false", "Drop of the only one, of no bits: true", "Drop of the first, of no bits: true",
		"Drop of in the midst, of no bits: true", "Drop of the last, of no bits: true",
	} {
		if n[what] < 20 {
			t.Errorf("too few of %s: %d", what, n[what])
		}
		delete(n, what)
	}
	if len(n) > 0 {
		t.Error("what can't be came:", n)
	}
}

// What a call answers hangs on the calls before on the same notification alone.
func TestP13_1DrawnCallsAreTheSameAgain(t *testing.T) {
	answers := func() (out []string) {
		d, b := draw(4711), begin(t)
		for range 150 {
			out = append(out, d.act(t, b, tally{}), fmt.Sprint(b.notif.Word(), b.notif.Waits()))
		}
		return out
	}
	first := answers()
	for range 5 {
		if again := answers(); !slices.Equal(again, first) {
			t.Fatal(first, again)
		}
	}
}

// each is every call there is of three IDs, the one of zeros among them, and of four words.
func each() (out []func(*testing.T, *both)) {
	for _, w := range []uint32{0, 1, 1 << 31, math.MaxUint32} {
		out = append(out, func(t *testing.T, b *both) { b.signal(t, w) })
	}
	for _, x := range []api.ID{id(0, 0), id(0, 1), id(1, 0)} {
		out = append(out, func(t *testing.T, b *both) { b.wait(t, x) }, func(t *testing.T, b *both) { b.drop(t, x) })
	}
	return out
}

// Every row of four calls, where nobody waits, one does, and several do, in two orders; and then one behind the other goes.
func TestP13_1EachRowOfFourCalls(t *testing.T) {
	calls := each()
	for _, l := range [][]api.ID{nil, {id(1, 0)}, {id(0, 1), id(0, 0), id(5, 5)}, {id(5, 5), id(1, 0), id(0, 0), id(0, 1)}} {
		for i := range len(calls) * len(calls) * len(calls) * len(calls) {
			b := begin(t, l...)
			for n, left := 0, i; n < 4; n, left = n+1, left/len(calls) {
				calls[left%len(calls)](t, b)
			}
			if b.model.word() != 0 {
				b.wait(t, id(6, 6))
			}
			b.ends(t, i%2 == 0)
		}
	}
}

func TestP13_1ManyAreWokenAsTheyCame(t *testing.T) {
	var n notif.Notif
	var want []api.ID
	for i := range 3000 {
		x := id(i*7919%3001-1500, i*104729%64)
		if got := toldTaken(n.Wait(x)); got != (taken{}) {
			t.Fatal("Wait", i, got)
		}
		want = append(want, x)
	}
	for range 3 {
		if !slices.Equal(n.Waits(), want) {
			t.Fatal("Waits")
		}
	}
	for i, x := range want {
		if n.Signal(0); i%5 == 2 {
			if !n.Drop(x) {
				t.Fatal("Drop", i)
			}
		} else if got := toldWoken(n.Signal(uint32(i + 1))); got != (woken{x, uint32(i + 1), true}) || n.Word() != 0 {
			t.Fatal("Signal", i, got)
		}
	}
	if got := toldWoken(n.Signal(1)); got != (woken{}) || len(n.Waits()) != 0 {
		t.Error("somebody is left:", got, n.Waits())
	}
}

func TestP13_1LongUseLeavesNothingBehind(t *testing.T) {
	b := some(t)
	for i := range 100000 {
		x, w := id(i, -i-1), uint32(i)|1<<31
		if got := toldTaken(b.notif.Wait(x)); got != (taken{}) {
			t.Fatal("Wait", x, got)
		}
		if i%3 == 0 {
			if !b.notif.Drop(x) {
				t.Fatal("Drop", x)
			}
		} else if got := toldWoken(b.notif.Signal(w)); !got.is || got.word != w || b.notif.Drop(got.id) {
			t.Fatal("Signal", got)
		}
		if n := len(b.notif.Waits()); n != 5 || b.notif.Word() != 0 {
			t.Fatal("round", i, "there are", n, b.notif.Word())
		}
	}
	if got := fmt.Sprint(b.notif.Waits()); got != "[{99992 -99993} {99994 -99995} {99995 -99996} {99997 -99998} {99998 -99999}]" {
		t.Error(got)
	}
}

// Bits that are signalled and taken, again and again, leave none.
func TestP13_1LongUseOfTheWord(t *testing.T) {
	var n notif.Notif
	for i := range 100000 {
		v, w := uint32(i), uint32(i)<<7|1
		if toldWoken(n.Signal(v)) != (woken{}) || toldWoken(n.Signal(w)) != (woken{}) || n.Word() != v|w {
			t.Fatal("Signal", i)
		}
		if got := toldTaken(n.Wait(id(i%4, i))); got != (taken{v | w, true}) || n.Word() != 0 {
			t.Fatal("Wait", i, got)
		}
	}
	if len(n.Waits()) != 0 {
		t.Error("somebody waits:", len(n.Waits()))
	}
}

// used is how many bytes are held, once all that nobody holds is away.
func used() int {
	var m runtime.MemStats
	runtime.GC()
	runtime.ReadMemStats(&m)
	return int(m.HeapAlloc)
}

// A notification for which few wait holds few, however many waited.
func TestP13_1LongUseHoldsNoMemory(t *testing.T) {
	var n notif.Notif
	for _, x := range five() {
		n.Wait(x)
	}
	before := used()
	for i := range 200000 {
		n.Wait(id(i, -i-1))
		if i%2 == 0 {
			n.Signal(1)
		} else {
			n.Drop(id(i, -i-1))
		}
	}
	if more := used() - before; more > 1<<20 {
		t.Error("bytes that are held more:", more)
	}
	if len(n.Waits()) != 5 {
		t.Error("there are", len(n.Waits()))
	}
}
