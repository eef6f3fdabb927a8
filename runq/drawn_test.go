package runq_test

import (
	"fmt"
	"slices"
	"testing"

	"ringkern/runq"
)

// draw is a row of numbers that look like none, the same at each run.
type draw uint64

func (d *draw) below(n int) int {
	*d ^= *d << 13
	*d ^= *d >> 7
	*d ^= *d << 17
	return int(uint64(*d) >> 11 % uint64(n))
}

// of is one of a list.
func of[T any](d *draw, l []T) T { return l[d.below(len(l))] }

// thread is one of so few that calls meet each other, at times one far from all.
func (d *draw) thread() int {
	if d.below(15) == 0 {
		return of(d, threads())
	}
	return of(d, []int{1, 2, 3, 20, -9, 0, 64})
}

// prio is one of so few that threads meet each other, at times one that can't be.
func (d *draw) prio() int {
	switch d.below(12) {
	case 0:
		return of(d, far())
	case 1:
		return d.below(8)
	}
	return of(d, []int{0, 3, 4, 7})
}

// tally counts what the drawn calls came to, by the call and its answer: a test of them is worth little where some case never comes.
type tally map[string]int

// act makes one call, and answers it with what it told.
func (d *draw) act(t *testing.T, b *both, n tally) string {
	t.Helper()
	var what string
	var got any
	switch d.below(12) {
	case 0, 1:
		what, got = "Remove", b.remove(t, d.thread())
	case 2, 3, 4:
		thread, prio := d.thread(), d.prio()
		if was, is := b.queue.Prio(thread); is && was == prio {
			what = "to its own: "
		}
		what, got = what+"Set", b.set(t, thread, prio)
	case 5, 6, 7:
		p := b.pick(t, of(d, append(threads(), 0, 1, 1, 2, 2, 3)))
		n[fmt.Sprint("of ", len(b.queue.Ready()), ": Pick ", p.is)]++
		what, got = "Pick", p
	default:
		what, got = "Add", b.add(t, d.thread(), d.prio())
	}
	told := fmt.Sprint(what, " ", got)
	n[told]++
	return told
}

func drawnCalls(t *testing.T, seeds int) tally {
	t.Helper()
	n := tally{}
	for seed := 1; seed <= seeds; seed++ {
		d, b := draw(seed*7919), newBoth()
		for range 120 {
			d.act(t, b, n)
		}
		if got, want := fmt.Sprint(drained(b.queue)), fmt.Sprint(b.model.rows()); got != want {
			t.Fatalf("at the end: %s, not %s", got, want)
		}
	}
	return n
}

func (n tally) holds(t *testing.T, l ...string) {
	t.Helper()
	for _, what := range l {
		if n[what] < 20 {
			t.Errorf("too few of %s: %v", what, n)
		}
	}
}

func TestP11_1DrawnCallsAgainstTheReference(t *testing.T) {
	drawnCalls(t, 60).holds(t, "Add true", "Add false", "Remove true", "Remove false", "Set true", "Set false", "to its own: Set true")
}

func TestP11_2DrawnCallsAgainstTheReference(t *testing.T) {
	drawnCalls(t, 60).holds(t, "of 0: Pick false", "of 1: Pick true", "of 2: Pick true", "of 3: Pick true", "of 4: Pick true")
}

// What a call answers hangs on the calls before on the same queue alone.
func TestP11_1DrawnCallsAreTheSameAgain(t *testing.T) {
	answers := func() (out []string) {
		d, b := draw(4711), newBoth()
		for range 150 {
			out = append(out, d.act(t, b, tally{}), fmt.Sprint(b.queue.Ready()))
		}
		return out
	}
	first := answers()
	for range 5 {
		if again := answers(); !slices.Equal(again, first) {
			t.Fatal(first, again)
		}
	}
}

// each is every call there is of two threads, two priorities and a few numbers.
func each() []func(*testing.T, *both) {
	var out []func(*testing.T, *both)
	for _, thread := range []int{1, 2} {
		out = append(out, func(t *testing.T, b *both) { b.remove(t, thread) })
		for _, prio := range []int{3, 4} {
			out = append(out, func(t *testing.T, b *both) { b.add(t, thread, prio) }, func(t *testing.T, b *both) { b.set(t, thread, prio) })
		}
	}
	for i := range 3 {
		out = append(out, func(t *testing.T, b *both) { b.pick(t, i) })
	}
	return out
}

// Every row of three calls, on queues that have nobody, those of one priority, and those of several.
func TestP11_1EachRowOfThreeCalls(t *testing.T) {
	calls := each()
	for _, l := range [][]line{nil, {{1, 4}, {2, 4}, {3, 4}}, {{2, 3}, {3, 4}, {1, 3}}, {{3, 3}, {1, 4}}} {
		for i := range len(calls) * len(calls) * len(calls) {
			b := begin(t, l...)
			for n, left := 0, i; n < 3; n, left = n+1, left/len(calls) {
				calls[left%len(calls)](t, b)
			}
			if got, want := fmt.Sprint(drained(b.queue)), fmt.Sprint(b.model.rows()); got != want {
				t.Fatalf("row %d of %v: %s, not %s", i, l, got, want)
			}
		}
	}
}

func TestP11_1LongUseLeavesNothingBehind(t *testing.T) {
	var q runq.Queue
	for i := range 20000 {
		prio := i % 8
		if !q.Add(i, prio) || told(q.Pick(i)) != told(i, true) || !q.Set(i, 7-prio) || !q.Remove(i) || len(q.Ready()) != 0 {
			t.Fatal("round", i)
		}
	}
}
