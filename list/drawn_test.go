package list_test

import (
	"fmt"
	"runtime"
	"slices"
	"testing"

	"ringkern/api"
	"ringkern/list"
)

// draw is a row of numbers that look like none, the same at each run.
type draw uint64

func (d *draw) below(n int) int {
	*d ^= *d << 13
	*d ^= *d >> 7
	*d ^= *d << 17
	return int(uint64(*d) >> 11 % uint64(n))
}

// id is one of so few that calls meet each other, at times one far from all.
func (d *draw) id() api.ID {
	if d.below(15) == 0 {
		l := ids()
		return l[d.below(len(l))]
	}
	return []api.ID{id(0, 0), id(0, 1), id(1, 0), id(1, 1), id(2, 1), id(1, 2), id(-1, 1)}[d.below(7)]
}

// tally counts what the drawn calls came to: a test of them is worth little where some case never comes.
type tally map[string]int

// where says of one that goes, or that was to come again, where in the list it stands.
func (b *both) where(x api.ID) string {
	at := slices.Index(b.model, x)
	switch {
	case at < 0:
		return "none"
	case len(b.model) == 1:
		return "the only one"
	case at == 0:
		return "the first"
	case at == len(b.model)-1:
		return "the last"
	}
	return "in the midst"
}

// act makes one call, and answers it with what it told.
func (d *draw) act(t *testing.T, b *both, n tally) string {
	t.Helper()
	x := d.id()
	var what string
	switch d.below(9) {
	case 0, 1:
		what = fmt.Sprint("Pop of ", min(len(b.model), 3), " ", b.pop(t).is)
	case 2, 3, 4:
		what = fmt.Sprint("Drop of ", b.where(x), " ", b.drop(t, x))
	default:
		what = fmt.Sprint("Push of ", b.where(x), " ", b.push(t, x))
	}
	n[what]++
	return what
}

func TestP12_1DrawnCallsAgainstTheReference(t *testing.T) {
	n := tally{}
	for seed := 1; seed <= 60; seed++ {
		d, b := draw(seed*7919), begin(t)
		for range 150 {
			d.act(t, b, n)
		}
		b.ends(t, seed%2 == 0)
	}
	for _, what := range []string{
		"Pop of 0 false", "Pop of 1 true", "Pop of 2 true", "Pop of 3 true",
		"Push of none true", "Push of the only one false", "Push of the first false", "Push of the last false", "Push of in the midst false",
		"Drop of none false", "Drop of the only one true", "Drop of the first true", "Drop of the last true", "Drop of in the midst true",
	} {
		if n[what] < 20 {
			t.Errorf("too few of %s: %v", what, n)
		}
	}
}

// What a call answers hangs on the calls before on the same list alone.
func TestP12_1DrawnCallsAreTheSameAgain(t *testing.T) {
	answers := func() (out []string) {
		d, b := draw(4711), begin(t)
		for range 150 {
			out = append(out, d.act(t, b, tally{}), fmt.Sprint(b.list.All()))
		}
		return out
	}
	first := answers()
	for range 5 {
		if again := answers(); !slices.Equal(again, first) {
			t.Fatal(first, again)
		}
	}
}

// each is every call there is of three IDs, the one of zeros among them.
func each() []func(*testing.T, *both) {
	out := []func(*testing.T, *both){func(t *testing.T, b *both) { b.pop(t) }}
	for _, x := range []api.ID{id(0, 0), id(0, 1), id(1, 0)} {
		out = append(out, func(t *testing.T, b *both) { b.push(t, x) }, func(t *testing.T, b *both) { b.drop(t, x) })
	}
	return out
}

// Every row of four calls, on lists that have nobody, one, and several, in two orders; and then one behind the other is taken away.
func TestP12_1EachRowOfFourCalls(t *testing.T) {
	calls := each()
	for _, l := range [][]api.ID{nil, {id(1, 0)}, {id(0, 1), id(0, 0), id(5, 5)}, {id(5, 5), id(1, 0), id(0, 0), id(0, 1)}} {
		for i := range len(calls) * len(calls) * len(calls) * len(calls) {
			b := begin(t, l...)
			for n, left := 0, i; n < 4; n, left = n+1, left/len(calls) {
				calls[left%len(calls)](t, b)
			}
			b.ends(t, i%2 == 0)
		}
	}
}

func TestP12_1LongUseLeavesNothingBehind(t *testing.T) {
	b := some(t)
	for i := range 100000 {
		x := id(i, -i-1)
		switch {
		case !b.list.Push(x):
			t.Fatal("Push", x)
		case i%3 == 0 && !b.list.Drop(x):
			t.Fatal("Drop", x)
		case i%3 != 0:
			was := told(b.list.Pop())
			if !was.is || b.list.Has(was.id) {
				t.Fatal("Pop", was)
			}
		}
		if n := b.list.Len(); n != 5 {
			t.Fatal("round", i, "there are", n)
		}
	}
	if got := fmt.Sprint(b.list.All()); got != "[{99992 -99993} {99994 -99995} {99995 -99996} {99997 -99998} {99998 -99999}]" {
		t.Error(got)
	}
}

// used is how many bytes are held, once all that nobody holds is away.
func used() int {
	var m runtime.MemStats
	runtime.GC()
	runtime.ReadMemStats(&m)
	return int(m.HeapAlloc)
}

// A list that has few holds few, however many went through it.
func TestP12_1LongUseHoldsNoMemory(t *testing.T) {
	var l list.List
	for _, x := range five() {
		l.Push(x)
	}
	before := used()
	for i := range 200000 {
		l.Push(id(i, -i-1))
		if i%2 == 0 {
			l.Pop()
		} else {
			l.Drop(id(i, -i-1))
		}
	}
	if more := used() - before; more > 1<<20 {
		t.Error("bytes that are held more:", more)
	}
	if l.Len() != 5 {
		t.Error("there are", l.Len())
	}
}
