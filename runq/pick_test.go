package runq_test

import (
	"math"
	"slices"
	"testing"

	"ringkern/runq"
)

func TestP11_2OfNobody(t *testing.T) {
	for _, b := range []*both{newBoth(), begin(t, line{5, 4})} {
		b.remove(t, 5)
		if l := b.queue.Ready(); len(l) != 0 {
			t.Error("Ready", l)
		}
		for _, i := range threads() {
			if got := b.pick(t, i); got != told(0, false) {
				t.Error("Pick", i, got)
			}
		}
		if !b.add(t, 6, 3) {
			t.Error("nobody can be added behind Pick")
		}
		b.ends(t, "[[6]]")
	}
}

func TestP11_2ReadyIsOfTheGreatestAlone(t *testing.T) {
	b := newBoth()
	for prio, want := range []string{"[50]", "[51]", "[52]", "[53]", "[54]", "[55]", "[56]", "[57]"} {
		b.add(t, 50+prio, prio)
		b.ready(t, want)
	}
	b.add(t, 1, 0)
	b.add(t, 2, 6)
	b.ready(t, "[57]")
	b.add(t, 3, 7)
	b.ready(t, "[57 3]")
	b.ends(t, "[[57 3] [56 2] [55] [54] [53] [52] [51] [50 1]]")
}

// The order is that in which they came, whatever their numbers.
func TestP11_2ReadyInOrder(t *testing.T) {
	for _, x := range []struct {
		l    []int
		want string
	}{
		{[]int{1, 2, 3}, "[1 2 3]"}, {[]int{3, 2, 1}, "[3 2 1]"}, {[]int{2, 3, 1}, "[2 3 1]"}, {[]int{2, 1, 3}, "[2 1 3]"},
		{[]int{0, -1, 1}, "[0 -1 1]"}, {[]int{math.MaxInt, 0, math.MinInt}, "[9223372036854775807 0 -9223372036854775808]"},
	} {
		for prio := range 8 {
			b := newBoth()
			for _, thread := range x.l {
				b.add(t, thread, prio)
			}
			b.ready(t, x.want)
			b.ready(t, x.want)
		}
	}
}

func TestP11_2PickAtTheEdges(t *testing.T) {
	for _, x := range []struct {
		i    int
		want picked
		rest string
	}{
		{0, told(30, true), "[[10 20 40 30] [5]]"}, {1, told(10, true), "[[30 20 40 10] [5]]"}, {2, told(20, true), "[[30 10 40 20] [5]]"}, {3, told(40, true), "[[30 10 20 40] [5]]"},
		{4, told(30, true), "[[10 20 40 30] [5]]"}, {5, told(10, true), "[[30 20 40 10] [5]]"}, {7, told(40, true), "[[30 10 20 40] [5]]"}, {8, told(30, true), "[[10 20 40 30] [5]]"},
		{1<<32 + 1, told(10, true), "[[30 20 40 10] [5]]"}, {math.MaxInt, told(40, true), "[[30 10 20 40] [5]]"}, {math.MaxInt - 1, told(20, true), "[[30 10 40 20] [5]]"},
		{-1, told(30, true), "[[10 20 40 30] [5]]"}, {-2, told(30, true), "[[10 20 40 30] [5]]"}, {-3, told(30, true), "[[10 20 40 30] [5]]"}, {-4, told(30, true), "[[10 20 40 30] [5]]"},
		{math.MinInt, told(30, true), "[[10 20 40 30] [5]]"}, {math.MinInt + 1, told(30, true), "[[10 20 40 30] [5]]"}, {-1<<32 + 3, told(30, true), "[[10 20 40 30] [5]]"},
	} {
		b := begin(t, line{30, 4}, line{5, 3}, line{10, 4}, line{20, 4}, line{40, 4})
		if got := b.pick(t, x.i); got != x.want {
			t.Errorf("Pick(%d): %v", x.i, got)
		}
		b.ends(t, x.rest)
	}
}

func TestP11_2PickOfEachNumberAndCount(t *testing.T) {
	for count := 1; count <= 6; count++ {
		for _, i := range append(threads(), 10, 11, 13, 14, 24, 60, 61) {
			b := begin(t, line{100, 5}, line{101, 7})
			for n := range count {
				b.add(t, n*5%7, 6)
			}
			b.remove(t, 101)
			b.pick(t, i)
			b.pick(t, i)
		}
	}
}

func TestP11_2PickOfAQueueOfOne(t *testing.T) {
	for prio := range 8 {
		b := begin(t, line{-6, prio})
		for _, i := range threads() {
			if got := b.pick(t, i); got != told(-6, true) {
				t.Errorf("Pick(%d): %v", i, got)
			}
		}
		if got := told(b.queue.Prio(-6)); got != told(prio, true) {
			t.Error("Prio:", got)
		}
		b.ends(t, "[[-6]]")
	}
}

// The first, again and again, is each in its turn; the last is always the same.
func TestP11_2PickGoesRound(t *testing.T) {
	b := some(t)
	for _, want := range []int{-9, 2, 4, -9, 2, 4, -9} {
		if got := b.pick(t, 0); got != told(want, true) {
			t.Errorf("the first: %v, not %d", got, want)
		}
	}
	b.ready(t, "[2 4 -9]")
	for range 4 {
		if got := b.pick(t, 2); got != told(-9, true) {
			t.Error("the last:", got)
		}
	}
	for _, want := range []int{4, -9, 4, -9} {
		if got := b.pick(t, 1); got != told(want, true) {
			t.Errorf("the one between: %v, not %d", got, want)
		}
	}
	b.ends(t, "[[2 4 -9] [30 10 20 40] [5] [7 0]]")
}

func TestP11_2PickSendsToTheEndOfItsPriorityAlone(t *testing.T) {
	b := begin(t, line{1, 2}, line{2, 2}, line{3, 5}, line{4, 5}, line{5, 0})
	b.pick(t, 0)
	if got := told(b.queue.Prio(3)); got != told(5, true) {
		t.Error("Prio:", got)
	}
	b.remove(t, 4)
	b.pick(t, 9)
	b.remove(t, 3)
	b.pick(t, 2)
	b.ends(t, "[[2 1] [5]]")
}

func TestP11_2PickAndTheOtherCalls(t *testing.T) {
	b := begin(t, line{1, 4}, line{2, 4}, line{3, 4})
	b.pick(t, 1)
	b.ready(t, "[1 3 2]")
	b.add(t, 4, 4)
	b.ready(t, "[1 3 2 4]")
	b.set(t, 3, 4)
	b.set(t, 1, 3)
	b.ready(t, "[3 2 4]")
	b.pick(t, 0)
	b.set(t, 1, 4)
	b.ready(t, "[2 4 3 1]")
	b.remove(t, 4)
	b.pick(t, 3)
	b.ready(t, "[3 1 2]")
	b.set(t, 1, 5)
	b.ready(t, "[1]")
	b.pick(t, 5)
	b.ends(t, "[[1] [3 2]]")
}

func TestP11_2ReadyIsNewMemory(t *testing.T) {
	b := some(t)
	b.pick(t, 1)
	b.remove(t, 4)
	first, second := b.queue.Ready(), b.queue.Ready()
	want := []int{-9, 2}
	if !slices.Equal(second, want) {
		t.Fatal(second)
	}
	_ = append(first, -7)
	first = first[:cap(first)]
	for i := range first {
		first[i] = -7
	}
	if !slices.Equal(second, want) || slices.Contains(second[:cap(second)], -7) {
		t.Error("one list shows what was written into another one:", second[:cap(second)])
	}
	b.check(t, "behind a write to a list")
	b.add(t, 60, 7)
	b.check(t, "behind Add, when a list was written to")
	b.ends(t, "[[-9 2 60] [30 10 20 40] [5] [7 0]]")
}

// What is written into a list's spare room doesn't come to stand in the queue, however long it and the list are.
func TestP11_2ReadyOfEachLengthIsNewMemory(t *testing.T) {
	for count := range 20 {
		b := newBoth()
		for thread := range count {
			b.add(t, thread, 6)
		}
		l, other := b.queue.Ready(), b.queue.Ready()
		more := append(l, -1, -2, -3)
		b.add(t, 90, 6)
		b.add(t, 91, 6)
		if !slices.Equal(more[count:], []int{-1, -2, -3}) {
			t.Error("a list shows what was added:", more)
		}
		l = l[:cap(l)]
		for i := range l {
			l[i] = -5
		}
		b.check(t, "behind a write to a list")
		for thread := range other {
			if other[thread] != thread {
				t.Error("another list shows it:", other)
			}
		}
	}
}

func TestP11_2ReadyStaysBehindLaterCalls(t *testing.T) {
	b := some(t)
	kept := b.queue.Ready()
	b.pick(t, 0)
	b.pick(t, 1)
	b.remove(t, 2)
	b.set(t, 4, 0)
	b.add(t, 8, 7)
	b.set(t, 5, 7)
	if !slices.Equal(kept, []int{-9, 2, 4}) {
		t.Error("a list shows later calls:", kept)
	}
	b.ends(t, "[[-9 8 5] [30 10 20 40] [7 0 4]]")
}

func TestP11_2ReadyChangesNothing(t *testing.T) {
	var q runq.Queue
	for _, thread := range []int{3, 1, 2} {
		q.Add(thread, 4)
	}
	for range 50 {
		if got := q.Ready(); !slices.Equal(got, []int{3, 1, 2}) {
			t.Fatal(got)
		}
	}
}
