package runq_test

import (
	"fmt"
	"math"
	"slices"
	"testing"

	"ringkern/runq"
)

// far are numbers beyond every bound, some of which a difference, a change of sign, or a cut to fewer bits, would carry to one that is within.
func far() []int {
	return []int{math.MinInt, math.MinInt + 1, math.MinInt + 4, -1 << 62, -1<<32 + 4, -1 << 32, math.MinInt32, -1 << 16, -256, -252, -64, -9, -8, -7, -4, -3, -2, -1,
		8, 9, 12, 15, 16, 64, 255, 256, 260, 1 << 16, 1<<16 + 4, math.MaxInt32, 1 << 31, 1 << 32, 1<<32 + 4, 1 << 62, math.MaxInt - 1, math.MaxInt}
}

// threads are what a thread may be named: each number may, so that one far below 0 is as good as any.
func threads() []int { return append(far(), 0, 1, 2, 3, 4, 5, 6, 7) }

// turn is what the model has of a thread: its priority, and when it came to stand where it stands.
type turn struct{ prio, since int }

// model is who should be in a queue. It keeps no rows: who came later stands behind.
type model struct {
	turns map[int]turn
	now   int
}

func (m *model) stamp(thread, prio int) {
	m.now++
	m.turns[thread] = turn{prio, m.now}
}

func isPrio(n int) bool { return slices.Contains([]int{0, 1, 2, 3, 4, 5, 6, 7}, n) }

func (m *model) add(thread, prio int) bool {
	if _, is := m.turns[thread]; is || !isPrio(prio) {
		return false
	}
	m.stamp(thread, prio)
	return true
}

func (m *model) remove(thread int) bool {
	_, is := m.turns[thread]
	delete(m.turns, thread)
	return is
}

func (m *model) set(thread, prio int) bool {
	was, is := m.turns[thread]
	if !is || !isPrio(prio) {
		return false
	}
	if was.prio != prio {
		m.stamp(thread, prio)
	}
	return true
}

// row is the threads of a priority, in order.
func (m *model) row(prio int) []int {
	var out []int
	for thread, x := range m.turns {
		if x.prio == prio {
			out = append(out, thread)
		}
	}
	slices.SortFunc(out, func(a, b int) int { return m.turns[a].since - m.turns[b].since })
	return out
}

// rows is the threads of each priority that has any, from the greatest on.
func (m *model) rows() [][]int {
	var out [][]int
	for prio := 7; prio >= 0; prio-- {
		if l := m.row(prio); len(l) > 0 {
			out = append(out, l)
		}
	}
	return out
}

func (m *model) ready() []int {
	if l := m.rows(); len(l) > 0 {
		return l[0]
	}
	return nil
}

// pick goes round the row step by step: that is what the remainder is.
func (m *model) pick(i int) (int, bool) {
	l := m.ready()
	if len(l) == 0 {
		return 0, false
	}
	at := 0
	if i > 0 {
		at = i - i/len(l)*len(l)
	}
	thread := l[at]
	m.stamp(thread, m.turns[thread].prio)
	return thread, true
}

// picked is what Pick and Prio tell.
type picked struct {
	n  int
	is bool
}

func told(n int, is bool) picked { return picked{n, is} }

// both is a queue and what it should have, with the calls that were made: Ready shows one priority alone, and the others can be seen only by taking that away, which is done on another queue with the same calls.
type both struct {
	queue *runq.Queue
	model model
	calls []func(*runq.Queue)
}

func newBoth() *both { return &both{queue: &runq.Queue{}, model: model{turns: map[int]turn{}}} }

// line is one thread that a queue begins with.
type line struct{ thread, prio int }

func begin(t *testing.T, l ...line) *both {
	t.Helper()
	b := newBoth()
	for _, x := range l {
		if !b.add(t, x.thread, x.prio) {
			t.Fatal("Add", x)
		}
	}
	return b
}

// some has several threads of several priorities, those at both ends among them, added so that neither their numbers nor their priorities rise.
func some(t *testing.T) *both {
	t.Helper()
	return begin(t, line{30, 4}, line{-9, 7}, line{10, 4}, line{7, 0}, line{20, 4}, line{2, 7}, line{5, 3}, line{0, 0}, line{4, 7}, line{40, 4})
}

func (b *both) add(t *testing.T, thread, prio int) bool {
	t.Helper()
	got := b.queue.Add(thread, prio)
	b.calls = append(b.calls, func(q *runq.Queue) { q.Add(thread, prio) })
	b.step(t, fmt.Sprintf("Add(%d, %d)", thread, prio), got, b.model.add(thread, prio))
	return got
}

func (b *both) remove(t *testing.T, thread int) bool {
	t.Helper()
	got := b.queue.Remove(thread)
	b.calls = append(b.calls, func(q *runq.Queue) { q.Remove(thread) })
	b.step(t, fmt.Sprintf("Remove(%d)", thread), got, b.model.remove(thread))
	return got
}

func (b *both) set(t *testing.T, thread, prio int) bool {
	t.Helper()
	got := b.queue.Set(thread, prio)
	b.calls = append(b.calls, func(q *runq.Queue) { q.Set(thread, prio) })
	b.step(t, fmt.Sprintf("Set(%d, %d)", thread, prio), got, b.model.set(thread, prio))
	return got
}

func (b *both) pick(t *testing.T, i int) picked {
	t.Helper()
	got := told(b.queue.Pick(i))
	b.calls = append(b.calls, func(q *runq.Queue) { q.Pick(i) })
	b.step(t, fmt.Sprintf("Pick(%d)", i), got, told(b.model.pick(i)))
	return got
}

// step holds an answer, and then all that can be asked, against the model, so that a refused call is seen to change nothing.
func (b *both) step(t *testing.T, what string, got, want any) {
	t.Helper()
	if got != want {
		t.Fatalf("%s: %v, not %v", what, got, want)
	}
	b.check(t, what)
}

func (b *both) check(t *testing.T, what string) {
	t.Helper()
	if got, want := b.queue.Ready(), b.model.ready(); !slices.Equal(got, want) {
		t.Fatalf("%s: Ready: %v, not %v", what, got, want)
	}
	for _, thread := range threads() {
		b.prio(t, what, thread)
	}
	for thread := range b.model.turns {
		b.prio(t, what, thread)
	}
	again := &runq.Queue{}
	for _, call := range b.calls {
		call(again)
	}
	if got, want := fmt.Sprint(drained(again)), fmt.Sprint(b.model.rows()); got != want {
		t.Fatalf("%s: in all: %s, not %s", what, got, want)
	}
}

func (b *both) prio(t *testing.T, what string, thread int) {
	t.Helper()
	want, is := b.model.turns[thread]
	if got := told(b.queue.Prio(thread)); got != told(want.prio, is) {
		t.Fatalf("%s: Prio(%d): %v, not %v, %v", what, thread, got, want.prio, is)
	}
}

// drained takes away one priority of a queue behind the other, and answers them. It gives up where a queue doesn't get empty.
func drained(q *runq.Queue) [][]int {
	var out [][]int
	for range 9 {
		l := q.Ready()
		if len(l) == 0 {
			break
		}
		out = append(out, l)
		for _, thread := range l {
			q.Remove(thread)
		}
	}
	return out
}

// ends holds all that the queue itself has against what is written out, as the model could be wrong, and leaves it empty.
func (b *both) ends(t *testing.T, want string) {
	t.Helper()
	b.check(t, "at the end")
	if got := fmt.Sprint(drained(b.queue)); got != want {
		t.Errorf("there are %s, not %s", got, want)
	}
}

// ready holds Ready against what is written out.
func (b *both) ready(t *testing.T, want string) {
	t.Helper()
	if got := fmt.Sprint(b.queue.Ready()); got != want {
		t.Errorf("ready are %s, not %s", got, want)
	}
}
