package runq_test

import (
	"fmt"
	"testing"

	"ringkern/runq"
)

func TestP11_1OfTheZeroValue(t *testing.T) {
	b := newBoth()
	b.check(t, "at first")
	for _, thread := range threads() {
		if b.remove(t, thread) {
			t.Fatal("Remove", thread)
		}
		for _, prio := range threads() {
			if b.queue.Set(thread, prio) {
				t.Fatal("Set", thread, prio)
			}
		}
	}
	b.check(t, "behind what changes nothing")
	if !b.add(t, 5, 0) {
		t.Error("nobody can be added")
	}
	b.ends(t, "[[5]]")
}

func TestP11_1AddAtEachPriority(t *testing.T) {
	for _, prio := range threads() {
		b, want := newBoth(), 0 <= prio && prio <= 7
		if got := b.add(t, 5, prio); got != want {
			t.Errorf("Add(5, %d): %v", prio, got)
		}
		p, is := b.queue.Prio(5)
		if is != want || is && p != prio || !is && p != 0 {
			t.Errorf("Prio, behind Add(5, %d): %d, %v", prio, p, is)
		}
		if n := len(b.queue.Ready()); n > 1 || (n == 1) != want {
			t.Errorf("Ready, behind Add(5, %d): %d", prio, n)
		}
	}
}

func TestP11_1AddOfEachThread(t *testing.T) {
	b := newBoth()
	for i, thread := range threads() {
		if !b.add(t, thread, i%3) || b.add(t, thread, i%3) || b.add(t, thread, 7) || b.add(t, thread, -1) {
			t.Fatal("Add", thread)
		}
	}
	for _, thread := range threads() {
		if !b.remove(t, thread) || b.remove(t, thread) {
			t.Fatal("Remove", thread)
		}
	}
	b.ends(t, "[]")
}

func TestP11_1AddIsLastOfItsPriority(t *testing.T) {
	b := some(t)
	b.add(t, 1, 7)
	b.add(t, 99, 4)
	b.add(t, -50, 0)
	b.add(t, 3, 3)
	b.add(t, 6, 5)
	b.ends(t, "[[-9 2 4 1] [6] [30 10 20 40 99] [5 3] [7 0 -50]]")
}

func TestP11_1AddOfOneThatIsThere(t *testing.T) {
	for _, thread := range []int{30, -9, 10, 7, 20, 2, 5, 0, 4, 40} {
		b := some(t)
		for prio := -1; prio <= 8; prio++ {
			if b.add(t, thread, prio) {
				t.Errorf("Add(%d, %d)", thread, prio)
			}
		}
		b.ends(t, "[[-9 2 4] [30 10 20 40] [5] [7 0]]")
	}
}

func TestP11_1RemoveOfEach(t *testing.T) {
	for _, x := range []struct {
		thread int
		want   string
	}{
		{30, "[[-9 2 4] [10 20 40] [5] [7 0]]"}, {10, "[[-9 2 4] [30 20 40] [5] [7 0]]"}, {20, "[[-9 2 4] [30 10 40] [5] [7 0]]"}, {40, "[[-9 2 4] [30 10 20] [5] [7 0]]"},
		{-9, "[[2 4] [30 10 20 40] [5] [7 0]]"}, {2, "[[-9 4] [30 10 20 40] [5] [7 0]]"}, {4, "[[-9 2] [30 10 20 40] [5] [7 0]]"},
		{5, "[[-9 2 4] [30 10 20 40] [7 0]]"}, {7, "[[-9 2 4] [30 10 20 40] [5] [0]]"}, {0, "[[-9 2 4] [30 10 20 40] [5] [7]]"},
	} {
		b := some(t)
		if !b.remove(t, x.thread) || b.remove(t, x.thread) || b.set(t, x.thread, 3) {
			t.Errorf("Remove(%d)", x.thread)
		}
		b.ends(t, x.want)
	}
}

func TestP11_1RemoveInEachOrder(t *testing.T) {
	l := []int{30, -9, 10, 7, 20, 2, 5, 0, 4, 40}
	for _, step := range []int{1, 3, 7, 9} {
		for first := range l {
			b := some(t)
			for i := range l {
				if !b.remove(t, l[(first+i*step)%len(l)]) {
					t.Error("Remove", first, i, step)
				}
			}
			b.ends(t, "[]")
		}
	}
}

func TestP11_1RemovedAndAddedAgain(t *testing.T) {
	b := some(t)
	if !b.remove(t, 30) || !b.add(t, 30, 4) || b.add(t, 30, 4) {
		t.Error("to where it was")
	}
	if !b.remove(t, 2) || !b.add(t, 2, 3) || !b.remove(t, 5) || !b.add(t, 5, 6) {
		t.Error("to other priorities")
	}
	b.ends(t, "[[-9 4] [5] [10 20 40 30] [2] [7 0]]")
}

func TestP11_1RemovedAndRefused(t *testing.T) {
	b := some(t)
	if !b.remove(t, 30) || b.add(t, 30, 8) || b.add(t, 30, -1) || b.set(t, 30, 4) || b.remove(t, 30) {
		t.Error("one that is not there")
	}
	b.ends(t, "[[-9 2 4] [10 20 40] [5] [7 0]]")
}

func TestP11_1RemoveOfTheLastOfTheGreatest(t *testing.T) {
	b := some(t)
	b.ready(t, "[-9 2 4]")
	b.remove(t, 2)
	b.remove(t, -9)
	b.ready(t, "[4]")
	b.remove(t, 4)
	b.ready(t, "[30 10 20 40]")
	for _, thread := range []int{30, 10, 20, 40} {
		b.remove(t, thread)
	}
	b.ready(t, "[5]")
	b.remove(t, 5)
	b.ready(t, "[7 0]")
	b.remove(t, 0)
	b.remove(t, 7)
	b.ready(t, "[]")
	if !b.add(t, 7, 1) {
		t.Error("nobody can be added")
	}
	b.ready(t, "[7]")
}

func TestP11_1SetToItsOwnPriorityStays(t *testing.T) {
	b := some(t)
	for _, x := range []line{{30, 4}, {10, 4}, {20, 4}, {40, 4}, {-9, 7}, {2, 7}, {4, 7}, {5, 3}, {7, 0}, {0, 0}} {
		if !b.set(t, x.thread, x.prio) || !b.set(t, x.thread, x.prio) {
			t.Error("Set", x)
		}
	}
	b.ends(t, "[[-9 2 4] [30 10 20 40] [5] [7 0]]")
}

func TestP11_1SetToAnotherPriorityIsLastOfThat(t *testing.T) {
	for _, x := range []struct {
		thread, prio int
		want         string
	}{
		{30, 7, "[[-9 2 4 30] [10 20 40] [5] [7 0]]"}, {10, 0, "[[-9 2 4] [30 20 40] [5] [7 0 10]]"}, {20, 3, "[[-9 2 4] [30 10 40] [5 20] [7 0]]"}, {40, 5, "[[-9 2 4] [40] [30 10 20] [5] [7 0]]"},
		{-9, 4, "[[2 4] [30 10 20 40 -9] [5] [7 0]]"}, {2, 0, "[[-9 4] [30 10 20 40] [5] [7 0 2]]"}, {4, 6, "[[-9 2] [4] [30 10 20 40] [5] [7 0]]"},
		{5, 4, "[[-9 2 4] [30 10 20 40 5] [7 0]]"}, {5, 2, "[[-9 2 4] [30 10 20 40] [5] [7 0]]"}, {7, 7, "[[-9 2 4 7] [30 10 20 40] [5] [0]]"}, {0, 1, "[[-9 2 4] [30 10 20 40] [5] [0] [7]]"},
	} {
		b := some(t)
		if !b.set(t, x.thread, x.prio) || b.add(t, x.thread, x.prio) {
			t.Errorf("Set(%d, %d)", x.thread, x.prio)
		}
		b.ends(t, x.want)
	}
}

func TestP11_1SetThereAndBack(t *testing.T) {
	b := some(t)
	if !b.set(t, 30, 7) || !b.set(t, 30, 4) || !b.set(t, 5, 0) || !b.set(t, 5, 3) {
		t.Error("Set")
	}
	b.ends(t, "[[-9 2 4] [10 20 40 30] [5] [7 0]]")
}

func TestP11_1SetAtEachPriority(t *testing.T) {
	for _, thread := range []int{30, -9, 0, 5} {
		for _, prio := range threads() {
			b, want := some(t), 0 <= prio && prio <= 7
			if got := b.set(t, thread, prio); got != want {
				t.Errorf("Set(%d, %d): %v", thread, prio, got)
			}
			if !want {
				b.ends(t, "[[-9 2 4] [30 10 20 40] [5] [7 0]]")
			}
		}
	}
}

func TestP11_1SetOfOneThatIsNotThere(t *testing.T) {
	b := some(t)
	for _, thread := range []int{1, 3, 6, 8, -1, -2, 31, 41, far()[0], 1 << 62} {
		for prio := -1; prio <= 8; prio++ {
			if b.set(t, thread, prio) {
				t.Errorf("Set(%d, %d)", thread, prio)
			}
		}
		if b.remove(t, thread) {
			t.Errorf("Remove(%d)", thread)
		}
	}
	b.ends(t, "[[-9 2 4] [30 10 20 40] [5] [7 0]]")
}

func TestP11_1SetOfTheLastOfTheGreatest(t *testing.T) {
	b := begin(t, line{5, 7}, line{6, 2}, line{8, 2})
	b.set(t, 5, 1)
	b.ready(t, "[6 8]")
	b.set(t, 6, 0)
	b.set(t, 8, 0)
	b.ready(t, "[5]")
	b.set(t, 5, 0)
	b.ends(t, "[[6 8 5]]")
}

func TestP11_1PrioOfEach(t *testing.T) {
	b := some(t)
	for _, x := range []struct {
		thread int
		want   picked
	}{
		{30, told(4, true)}, {-9, told(7, true)}, {7, told(0, true)}, {0, told(0, true)}, {5, told(3, true)}, {2, told(7, true)},
		{1, told(0, false)}, {-7, told(0, false)}, {9, told(0, false)}, {1<<32 + 7, told(0, false)}, {far()[0], told(0, false)},
	} {
		if got := told(b.queue.Prio(x.thread)); got != x.want {
			t.Errorf("Prio(%d): %v", x.thread, got)
		}
	}
	b.check(t, "behind Prio")
}

func TestP11_1ManyThreads(t *testing.T) {
	var q runq.Queue
	const many = 800
	for i := range many {
		if !q.Add(i*37%many, i%8) {
			t.Fatal("Add", i)
		}
	}
	for i := range many {
		if thread := i * 37 % many; told(q.Prio(thread)) != told(i%8, true) || q.Add(thread, 0) || !q.Set(thread, 7-i%8) {
			t.Fatal("Prio, Add or Set", thread)
		}
	}
	for prio := 7; prio >= 0; prio-- {
		l := q.Ready()
		if len(l) != many/8 {
			t.Fatal("Ready", prio, len(l))
		}
		for i, thread := range l {
			if thread != (i*8+7-prio)*37%many || !q.Remove(thread) {
				t.Fatal("Remove", prio, i, thread)
			}
		}
	}
}

func TestP11_1QueuesApart(t *testing.T) {
	a, b := some(t), begin(t, line{30, 0}, line{10, 0})
	b.set(t, 30, 7)
	b.remove(t, 10)
	b.add(t, 4, 7)
	b.pick(t, 0)
	a.check(t, "behind calls on another one")
	a.ends(t, "[[-9 2 4] [30 10 20 40] [5] [7 0]]")
	b.ends(t, "[[4 30]]")
	var c runq.Queue
	if len(c.Ready()) != 0 {
		t.Error("a new one shows another's threads:", fmt.Sprint(c.Ready()))
	}
}
