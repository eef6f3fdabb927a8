package space_test

import (
	"fmt"
	"slices"
	"testing"

	"ringkern/api"
)

// draw is a row of numbers that look like none, the same at each run.
type draw uint64

func (d *draw) below(n int) int {
	*d ^= *d << 13
	*d ^= *d >> 7
	*d ^= *d << 17
	return int(uint64(*d) >> 11 % uint64(n))
}

// of is one of a list.
func of[T any](d *draw, l []T) T { return l[d.below(len(l))] }

// unit is one of so few that pages meet each other, at times none that can be.
func (d *draw) unit() int {
	if d.below(15) == 0 {
		return of(d, units())
	}
	return of(d, []int{1, 2, 10, 63, 64})
}

func (d *draw) page() api.Page {
	if d.below(15) == 0 {
		return of(d, noPages())
	}
	return page(d.unit(), d.below(8))
}

func (d *draw) map1() api.Map1 {
	if d.below(15) == 0 {
		return to(d.unit(), of(d, asked()))
	}
	return to(d.unit(), 1+d.below(3))
}

// tally counts what the drawn calls came to, by the call and its answer: a test of them is worth little where some case never comes.
type tally map[string]int

// act makes one call, and answers it with what it told.
func (d *draw) act(t *testing.T, b *both, n tally) string {
	t.Helper()
	var what string
	var got any
	switch d.below(14) {
	case 0, 1, 2:
		what, got = "Clear", b.clear(t, d.page())
	case 3:
		what, got = "Drop", b.drop(t, d.unit())
	case 4:
		what, got = "Empty", b.empty(t, d.unit())
	default:
		what, got = "Set", b.set(t, d.page(), d.map1())
	}
	told := fmt.Sprint(what, " ", got)
	n[told]++
	return told
}

// peek holds some drawn Looks against the model.
func (d *draw) peek(t *testing.T, b *both, n tally) {
	t.Helper()
	for range 10 {
		a := of(d, looks())
		f := b.look(t, d.unit(), a, of(d, counts(a)), of(d, []int{0, 0, 1, 1, 2, 2, 3, 4, -1}))
		n[fmt.Sprint("Look ", f.is)]++
	}
}

func TestP10_1DrawnCallsAgainstTheReference(t *testing.T) {
	n := tally{}
	for seed := 1; seed <= 60; seed++ {
		d, b := draw(seed*7919), newBoth()
		for range 150 {
			d.act(t, b, n)
			d.peek(t, b, n)
		}
	}
	for _, what := range []string{"Set true", "Set false", "Clear true", "Clear false", "Drop 0", "Drop 1", "Drop 2", "Drop 4", "Empty 0", "Empty 1", "Empty 2", "Empty 4", "Look true", "Look false"} {
		if n[what] < 20 {
			t.Errorf("too few of %s: %v", what, n)
		}
	}
}

// What a call answers hangs on the calls before on the same maps alone.
func TestP10_1DrawnCallsAreTheSameAgain(t *testing.T) {
	answers := func() (out []string) {
		d, b := draw(4711), newBoth()
		for range 200 {
			out = append(out, d.act(t, b, tally{}), fmt.Sprint(b.maps.All()))
		}
		return out
	}
	first := answers()
	for range 5 {
		if again := answers(); !slices.Equal(again, first) {
			t.Fatal(first, again)
		}
	}
}
