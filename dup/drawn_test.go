package dup_test

import (
	"testing"

	"ringkern/api"
)

// draw is a row of numbers that look like none, the same at each run.
type draw uint64

func (d *draw) below(n int) int {
	*d ^= *d << 13
	*d ^= *d >> 7
	*d ^= *d << 17
	return int(uint64(*d) >> 11 % uint64(n))
}

// of is one of a list.
func of[T any](d *draw, l []T) T { return l[d.below(len(l))] }

// place is one of a few, at times one that can't be.
func (d *draw) place() api.Place {
	if d.below(20) == 0 {
		return of(d, cantBe())
	}
	return at(of(d, []int{1, 2, 63, 64}), d.below(api.Slots))
}

// from is mostly a place that has one.
func (d *draw) from(w *world) api.Place {
	if d.below(8) == 0 {
		return d.place()
	}
	return of(d, w.all())
}

func (d *draw) rights() int {
	if d.below(8) == 0 {
		return of(d, append(far(), 8))
	}
	return d.below(8)
}

// word is a badge, a guard that is right, or anything.
func (d *draw) word() uint32 {
	size := d.below(9)
	return of(d, []uint32{uint32(d.below(1 << 31)), uint32(d.below(1<<size)<<8 | size), of(d, words()), uint32(d.below(1 << 32))})
}

// act makes one call, and answers which one it was and its code.
func (d *draw) act(t *testing.T, w *world) [2]int {
	t.Helper()
	kind, from, to := d.below(3), d.from(w), d.place()
	switch kind {
	case 0:
		return [2]int{kind, w.copy(t, from, to, d.rights())}
	case 1:
		return [2]int{kind, w.mint(t, from, to, d.word())}
	}
	return [2]int{kind, w.move(t, from, to)}
}

// thin takes some away, so that a table does not stay full.
func (d *draw) thin(w *world) {
	for len(w.want) > 40 {
		p := of(d, w.all())
		w.table.Drop(p)
		up := w.want[p].parent
		delete(w.want, p)
		for q, x := range w.want {
			if x.parent == p {
				w.want[q] = cell{x.c, up}
			}
		}
	}
}

func TestP7_1DrawnCallsAgainstTheReference(t *testing.T) {
	counts := map[[2]int]int{}
	for seed := 1; seed <= 30; seed++ {
		d, w := draw(seed*7919), newWorld()
		for i := range 9 {
			w.put(t, at(1, i), of(&d, various()), none)
		}
		for range 600 {
			counts[d.act(t, w)]++
			d.thin(w)
		}
		w.checkTree(t, "at the end")
	}
	for kind, codes := range [][]int{
		{api.Fine, api.EEmpty, api.ERange, api.EFull},
		{api.Fine, api.EEmpty, api.ERange, api.EFull, api.EBadge, api.EKind},
		{api.Fine, api.EEmpty, api.ERange, api.EFull},
	} {
		for _, code := range codes {
			if counts[[2]int{kind, code}] < 50 {
				t.Error("of call", kind, "with code", code, "there were", counts[[2]int{kind, code}])
			}
		}
	}
}

// What a call answers hangs on the calls before on the same table alone.
func TestP7_1DrawnCallsAreTheSameAgain(t *testing.T) {
	codes := func() (out []int) {
		d, w := draw(4711), tree(t)
		for range 300 {
			out = append(out, d.act(t, w)[1])
		}
		return out
	}
	first := codes()
	for i, code := range codes() {
		if code != first[i] {
			t.Fatal("call", i, first[i], code)
		}
	}
}
