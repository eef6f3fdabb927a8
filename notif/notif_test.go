package notif_test

import (
	"fmt"
	"math"
	"slices"
	"testing"

	"ringkern/api"
	"ringkern/notif"
)

func TestP13_1OfTheZeroValue(t *testing.T) {
	b := begin(t)
	b.stands(t, "0 []")
	for _, x := range ids() {
		if b.drop(t, x) || b.signal(t, 0) != (woken{}) {
			t.Fatal(x)
		}
	}
	b.stands(t, "0 []")
	if b.wait(t, id(5, 6)) != (taken{}) {
		t.Error("Wait")
	}
	b.stands(t, "0 [{5 6}]")
}

func TestP13_1SignalWithNobodyWaiting(t *testing.T) {
	for _, w := range words() {
		b := begin(t)
		if b.signal(t, w) != (woken{}) || b.notif.Word() != w {
			t.Errorf("Signal(%#x)", w)
		}
		if b.wait(t, id(1, 1)) != (taken{w, true}) || b.notif.Word() != 0 {
			t.Errorf("Wait, of %#x", w)
		}
		b.stands(t, "0 []")
	}
}

func TestP13_1BitsOfSeveralSignalsComeTogether(t *testing.T) {
	b := begin(t)
	for _, x := range []struct {
		bits uint32
		want string
	}{
		{4, "4 []"}, {1, "5 []"}, {5, "5 []"}, {4, "5 []"}, {0, "5 []"}, {6, "7 []"}, {0x80000000, "2147483655 []"},
		{0x80000000, "2147483655 []"}, {0, "2147483655 []"}, {math.MaxUint32, "4294967295 []"}, {1, "4294967295 []"}, {0, "4294967295 []"},
	} {
		if b.signal(t, x.bits) != (woken{}) {
			t.Errorf("Signal(%#x)", x.bits)
		}
		b.stands(t, x.want)
	}
	if b.wait(t, id(2, 3)) != (taken{math.MaxUint32, true}) {
		t.Error("Wait")
	}
	b.stands(t, "0 []")
}

func TestP13_1EachTwoWordsComeTogether(t *testing.T) {
	for _, v := range words() {
		for _, w := range words() {
			b := begin(t)
			if b.signal(t, v).is || b.signal(t, w).is || b.wait(t, id(1, 1)) != (taken{v | w, true}) {
				t.Fatalf("%#x and %#x", v, w)
			}
		}
	}
}

// What one took is not in the word of the next one.
func TestP13_1BitsThatWereTakenDoNotComeAgain(t *testing.T) {
	b := begin(t)
	b.signal(t, 6)
	if b.wait(t, id(1, 1)) != (taken{6, true}) || b.signal(t, 8).is || b.wait(t, id(1, 1)) != (taken{8, true}) {
		t.Error("taken by Wait")
	}
	b.wait(t, id(1, 1))
	b.wait(t, id(1, 2))
	if b.signal(t, 3) != (woken{id(1, 1), 3, true}) || b.signal(t, 4) != (woken{id(1, 2), 4, true}) || b.signal(t, 16).is {
		t.Error("taken by Signal")
	}
	b.stands(t, "16 []")
}

func TestP13_1SignalWakesTheFirstAlone(t *testing.T) {
	for _, w := range words() {
		b := some(t)
		if b.signal(t, w) != (woken{id(3, 1), w, true}) {
			t.Errorf("Signal(%#x)", w)
		}
		b.stands(t, "0 [{1 2} {0 0} {-1 5} {2 2}]")
	}
}

func TestP13_1SignalsWakeThemAsTheyCame(t *testing.T) {
	b := some(t)
	for i, x := range []struct{ told, stands string }{
		{"{{3 1} 1 true}", "0 [{1 2} {0 0} {-1 5} {2 2}]"}, {"{{1 2} 2 true}", "0 [{0 0} {-1 5} {2 2}]"}, {"{{0 0} 4 true}", "0 [{-1 5} {2 2}]"},
		{"{{-1 5} 8 true}", "0 [{2 2}]"}, {"{{2 2} 16 true}", "0 []"}, {"{{0 0} 0 false}", "32 []"}, {"{{0 0} 0 false}", "96 []"},
	} {
		if got := fmt.Sprint(b.signal(t, 1<<i)); got != x.told {
			t.Errorf("Signal %d: %s, not %s", i, got, x.told)
		}
		b.stands(t, x.stands)
	}
}

func TestP13_1SignalOfNoBitsWakesNobody(t *testing.T) {
	for _, l := range [][]api.ID{nil, {id(0, 0)}, {id(1, 2), id(0, 1)}, five()} {
		b := begin(t, l...)
		want := fmt.Sprint(uint32(0), l)
		for range 3 {
			if b.signal(t, 0) != (woken{}) {
				t.Error("Signal(0) with", len(l), "that wait")
			}
			b.stands(t, want)
		}
		b.ends(t, len(l)%2 == 0)
	}
}

func TestP13_1SignalOfNoBitsWhereTheWordHasSome(t *testing.T) {
	for _, w := range words() {
		b := begin(t)
		b.signal(t, w)
		for range 3 {
			if b.signal(t, 0) != (woken{}) || b.notif.Word() != w {
				t.Errorf("Signal(0), of %#x", w)
			}
		}
		if b.wait(t, id(0, 0)) != (taken{w, true}) {
			t.Errorf("Wait, of %#x", w)
		}
	}
}

func TestP13_1WaitWhereTheWordHasBitsWaitsNot(t *testing.T) {
	for _, x := range ids() {
		b := begin(t)
		b.signal(t, 0x80000001)
		if b.wait(t, x) != (taken{0x80000001, true}) || b.drop(t, x) || b.signal(t, 2) != (woken{}) {
			t.Fatal(x)
		}
		b.stands(t, "2 []")
	}
}

// The word goes to one that waits anew, and the next one waits.
func TestP13_1OneWaitTakesAll(t *testing.T) {
	b := begin(t)
	b.signal(t, 3)
	b.signal(t, 8)
	if b.wait(t, id(4, 1)) != (taken{11, true}) || b.wait(t, id(4, 1)) != (taken{}) || b.wait(t, id(4, 2)) != (taken{}) {
		t.Error("Wait")
	}
	b.stands(t, "0 [{4 1} {4 2}]")
}

func TestP13_1WaitIsBehindTheOthers(t *testing.T) {
	b := some(t)
	b.stands(t, "0 [{3 1} {1 2} {0 0} {-1 5} {2 2}]")
	for _, x := range []api.ID{id(1, 1), id(9, 9), id(-9, -9)} {
		if b.wait(t, x) != (taken{}) {
			t.Error("Wait", x)
		}
	}
	b.stands(t, "0 [{3 1} {1 2} {0 0} {-1 5} {2 2} {1 1} {9 9} {-9 -9}]")
	b.ends(t, false)
}

func TestP13_1WaitOfOneThatWaitsStaysWhereItIs(t *testing.T) {
	for _, x := range five() {
		for _, back := range []bool{false, true} {
			b := some(t)
			if b.wait(t, x) != (taken{}) || b.wait(t, x) != (taken{}) {
				t.Error("Wait", x)
			}
			b.stands(t, "0 [{3 1} {1 2} {0 0} {-1 5} {2 2}]")
			b.ends(t, back)
		}
	}
	b := begin(t, id(7, 7))
	if b.wait(t, id(7, 7)) != (taken{}) {
		t.Error("Wait of the only one")
	}
	b.stands(t, "0 [{7 7}]")
	if !b.signal(t, 1).is || b.signal(t, 1).is {
		t.Error("one that waited twice is woken twice")
	}
}

func TestP13_1WokenAndWaitsAgain(t *testing.T) {
	b := some(t)
	for range 12 {
		if x := b.signal(t, 1<<31); !x.is || b.drop(t, x.id) || b.wait(t, x.id).is {
			t.Error("Wait", x)
		}
	}
	b.stands(t, "0 [{0 0} {-1 5} {2 2} {3 1} {1 2}]")
	b.ends(t, false)
}

func TestP13_1DroppedAndWaitsAgain(t *testing.T) {
	for _, x := range []struct {
		id   api.ID
		want string
	}{
		{id(3, 1), "0 [{1 2} {0 0} {-1 5} {2 2} {3 1}]"}, {id(1, 2), "0 [{3 1} {0 0} {-1 5} {2 2} {1 2}]"}, {id(0, 0), "0 [{3 1} {1 2} {-1 5} {2 2} {0 0}]"},
		{id(-1, 5), "0 [{3 1} {1 2} {0 0} {2 2} {-1 5}]"}, {id(2, 2), "0 [{3 1} {1 2} {0 0} {-1 5} {2 2}]"},
	} {
		for _, back := range []bool{false, true} {
			b := some(t)
			if !b.drop(t, x.id) || b.wait(t, x.id).is || b.wait(t, x.id).is {
				t.Errorf("Wait(%v)", x.id)
			}
			b.stands(t, x.want)
			b.ends(t, back)
		}
	}
}

func TestP13_1DropOfEach(t *testing.T) {
	for _, x := range []struct {
		id         api.ID
		want, next string
	}{
		{id(3, 1), "0 [{1 2} {0 0} {-1 5} {2 2}]", "{{1 2} 9 true}"}, {id(1, 2), "0 [{3 1} {0 0} {-1 5} {2 2}]", "{{3 1} 9 true}"},
		{id(0, 0), "0 [{3 1} {1 2} {-1 5} {2 2}]", "{{3 1} 9 true}"}, {id(-1, 5), "0 [{3 1} {1 2} {0 0} {2 2}]", "{{3 1} 9 true}"},
		{id(2, 2), "0 [{3 1} {1 2} {0 0} {-1 5}]", "{{3 1} 9 true}"},
	} {
		for _, back := range []bool{false, true} {
			b := some(t)
			if !b.drop(t, x.id) || b.drop(t, x.id) {
				t.Errorf("Drop(%v)", x.id)
			}
			b.stands(t, x.want)
			if got := fmt.Sprint(b.signal(t, 9)); got != x.next {
				t.Errorf("Drop(%v): then Signal: %s, not %s", x.id, got, x.next)
			}
			b.ends(t, back)
		}
	}
}

func TestP13_1DropOfTheOnlyOne(t *testing.T) {
	for _, x := range ids() {
		b := begin(t, x)
		if !b.drop(t, x) || b.drop(t, x) {
			t.Fatal("Drop", x)
		}
		b.stands(t, "0 []")
		if b.signal(t, 5) != (woken{}) || b.wait(t, x) != (taken{5, true}) {
			t.Fatal("behind Drop", x)
		}
	}
}

func TestP13_1DropOfOneThatDoesNotWait(t *testing.T) {
	b := some(t)
	for _, x := range ids() {
		if !slices.Contains(five(), x) && b.drop(t, x) {
			t.Fatal("Drop", x)
		}
	}
	b.stands(t, "0 [{3 1} {1 2} {0 0} {-1 5} {2 2}]")
	b.ends(t, true)
	b.signal(t, 0x12345678)
	for _, x := range ids() {
		if b.drop(t, x) {
			t.Fatal("Drop", x, "where the word has bits")
		}
	}
	b.stands(t, "305419896 []")
}

func TestP13_1DropInEachOrder(t *testing.T) {
	l := []api.ID{id(3, 1), id(1, 2), id(0, 0), id(-1, 5), id(2, 2), id(1, 1), id(4, 2)}
	for _, step := range []int{1, 2, 3, 4, 5, 6} {
		for first := range l {
			b := begin(t, l...)
			for i := range l {
				if !b.drop(t, l[(first+i*step)%len(l)]) {
					t.Error("Drop", first, i, step)
				}
			}
			b.stands(t, "0 []")
		}
	}
}

func TestP13_1AnIDOfZerosIsAsGoodAsAny(t *testing.T) {
	b := begin(t, api.ID{})
	b.stands(t, "0 [{0 0}]")
	if b.wait(t, api.ID{}).is || b.signal(t, 0).is || b.signal(t, 4) != (woken{api.ID{}, 4, true}) || b.signal(t, 4) != (woken{}) {
		t.Error("alone")
	}
	b.stands(t, "4 []")
	if b.wait(t, api.ID{}) != (taken{4, true}) || b.drop(t, api.ID{}) {
		t.Error("where the word has bits")
	}
	b.wait(t, id(1, 0))
	b.wait(t, api.ID{})
	b.wait(t, id(0, 1))
	b.stands(t, "0 [{1 0} {0 0} {0 1}]")
	if !b.drop(t, api.ID{}) || b.drop(t, api.ID{}) || b.wait(t, api.ID{}).is {
		t.Error("dropped")
	}
	b.stands(t, "0 [{1 0} {0 1} {0 0}]")
	b.ends(t, false)
}

func TestP13_1IDsThatDifferInOneNumber(t *testing.T) {
	b := begin(t, id(1, 2))
	for _, x := range []api.ID{id(1, 3), id(2, 2), id(2, 1), id(1, 1), id(-1, 2), id(1, -2), id(1, 0), id(0, 2)} {
		if b.drop(t, x) || b.wait(t, x).is || b.wait(t, id(1, 2)).is {
			t.Error(x)
		}
	}
	b.stands(t, "0 [{1 2} {1 3} {2 2} {2 1} {1 1} {-1 2} {1 -2} {1 0} {0 2}]")
	if !b.drop(t, id(1, 2)) || !b.drop(t, id(2, 2)) || !b.drop(t, id(1, 0)) {
		t.Error("Drop")
	}
	b.stands(t, "0 [{1 3} {2 1} {1 1} {-1 2} {1 -2} {0 2}]")
	b.ends(t, true)
}

func TestP13_1EachNumberFarFromAll(t *testing.T) {
	b := begin(t)
	for _, x := range ids() {
		if b.drop(t, x) || b.wait(t, x) != (taken{}) || b.wait(t, x) != (taken{}) {
			t.Fatal("Wait", x)
		}
	}
	if got := b.notif.Waits(); !slices.Equal(got, ids()) {
		t.Error(got)
	}
	for i, x := range ids() {
		if i%3 == 0 && (!b.drop(t, x) || b.drop(t, x)) {
			t.Fatal("Drop", x)
		}
	}
	for i, x := range ids() {
		if i%3 != 0 && b.signal(t, 1<<(i%32)) != (woken{x, 1 << (i % 32), true}) {
			t.Fatal("Signal", x)
		}
	}
	b.stands(t, "0 []")
}

// refused are calls that tell false and change nothing.
func refused(t *testing.T, n *notif.Notif) {
	t.Helper()
	l := n.Waits()
	for _, x := range l {
		if got := toldTaken(n.Wait(x)); got != (taken{}) {
			t.Fatal("Wait", x, got)
		}
	}
	for _, x := range ids() {
		if !slices.Contains(l, x) && n.Drop(x) {
			t.Fatal("Drop", x)
		}
	}
	again := uint32(0)
	if len(l) == 0 {
		again = n.Word()
	}
	if got := toldWoken(n.Signal(again)); got != (woken{}) {
		t.Fatal("Signal", again, got)
	}
}

// What is refused changes nothing that a later call tells: one notification has refused calls ahead of each of its calls, the other has none.
func TestP13_1WhatIsRefusedChangesNothing(t *testing.T) {
	for seed := 1; seed <= 20; seed++ {
		d := draw(seed * 7919)
		var n, plain notif.Notif
		for i := range 80 {
			refused(t, &n)
			x, bits, got, want := d.id(), d.bits(), any(nil), any(nil)
			switch d.below(5) {
			case 0:
				got, want = toldWoken(n.Signal(bits)), toldWoken(plain.Signal(bits))
			case 1:
				got, want = n.Drop(x), plain.Drop(x)
			default:
				got, want = toldTaken(n.Wait(x)), toldTaken(plain.Wait(x))
			}
			if got != want || n.Word() != plain.Word() || !slices.Equal(n.Waits(), plain.Waits()) {
				t.Fatal(seed, i, x, got, want, n.Waits(), plain.Waits())
			}
		}
	}
}

// spoil writes all over a list that was handed out, into its spare room too.
func spoil(l []api.ID) {
	l = l[:cap(l)]
	for i := range l {
		l[i] = id(99, 99)
	}
	_ = append(l[:0], id(98, 98))
	_ = append(l, id(97, 97))
}

func TestP13_1WaitsIsNewMemory(t *testing.T) {
	for n := range 20 {
		b := begin(t)
		for i := range n {
			b.wait(t, id(i%3, n-i))
			spoil(b.notif.Waits())
			b.check(t, "spoilt", i)
		}
		first, second := b.notif.Waits(), b.notif.Waits()
		spoil(first)
		if !slices.Equal(second, b.model.waits) {
			t.Fatal("of two lists, one shows what is written into the other:", second)
		}
		first = append(b.notif.Waits(), id(5, 5))
		second = append(b.notif.Waits(), id(6, 6))
		if first[n] != id(5, 5) || second[n] != id(6, 6) {
			t.Fatal("of two lists, one shows what is appended to the other:", first, second)
		}
		spoil(b.notif.Waits()[:0])
		b.check(t, "spoilt", n)
		b.ends(t, n%2 == 0)
	}
}

func TestP13_1WaitsStaysAsItWasHandedOut(t *testing.T) {
	b := some(t)
	was := b.notif.Waits()
	room := append(was, id(8, 8))
	b.signal(t, 1)
	b.drop(t, id(-1, 5))
	b.wait(t, id(3, 1))
	b.wait(t, id(7, 7))
	b.wait(t, id(6, 6))
	if got := fmt.Sprint(was, room); got != "[{3 1} {1 2} {0 0} {-1 5} {2 2}] [{3 1} {1 2} {0 0} {-1 5} {2 2} {8 8}]" {
		t.Error(got)
	}
	b.stands(t, "0 [{1 2} {0 0} {2 2} {3 1} {7 7} {6 6}]")
}

func TestP13_1TwoNotificationsAreApart(t *testing.T) {
	a, b, none := begin(t), begin(t), begin(t)
	b.signal(t, 1<<30)
	for i, x := range ids() {
		a.wait(t, x)
		switch i % 5 {
		case 0, 1:
			b.wait(t, x)
		case 2:
			b.signal(t, uint32(i))
		case 3:
			a.signal(t, uint32(i)<<20)
		case 4:
			a.drop(t, x)
		}
		a.check(t, "of the other", x)
		b.check(t, "of the other", x)
	}
	none.stands(t, "0 []")
	a.ends(t, false)
	b.check(t, "of the other", "")
	b.ends(t, true)
	none.stands(t, "0 []")
}
