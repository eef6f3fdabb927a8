package retype_test

import (
	"slices"
	"testing"

	"ringkern/api"
)

// draw is a row of numbers that look like none, the same at each run.
type draw uint64

func (d *draw) below(n int) int {
	*d ^= *d << 13
	*d ^= *d >> 7
	*d ^= *d << 17
	return int(uint64(*d) >> 11 % uint64(n))
}

// of is one of a list.
func of[T any](d *draw, l []T) T { return l[d.below(len(l))] }

// count is mostly of a few units, at times none that can be.
func (d *draw) count() int {
	if d.below(12) == 0 {
		return of(d, far())
	}
	return d.below(5)
}

// place is in one of so few nodes that it is at times full; at times it can't be.
func (d *draw) place() api.Place {
	if d.below(25) == 0 {
		return of(d, cantBe())
	}
	return at(of(d, []int{1, 2, 64}), d.below(api.Slots))
}

// from is mostly a place that has an Untyped.
func (d *draw) from(w *world) api.Place {
	l := w.all()
	switch d.below(12) {
	case 0:
		return d.place()
	case 1:
		return of(d, l)
	}
	l = slices.DeleteFunc(l, func(p api.Place) bool { return w.want[p].c.Kind != api.Untyped })
	if len(l) == 0 {
		return d.place()
	}
	return of(d, l)
}

// asked is a kind and a size, at times of one that isn't made.
func (d *draw) asked() (int, int) {
	switch d.below(14) {
	case 0:
		return of(d, notMade()), d.count()
	case 1:
		return of(d, made()), d.count()
	case 2:
		return api.Untyped, of(d, append(far(), 0, 64))
	case 3, 4, 5, 6, 7:
		return api.Untyped, 1 + d.below(5)
	}
	return of(d, made()), 0
}

// cap is one that no Make told, of units that those that were made have too.
func (d *draw) cap() api.Cap {
	unit := 1 + d.below(30)
	if d.below(2) == 0 {
		return api.Cap{Kind: api.Untyped, Obj: unit, Size: 1 + d.below(12), Rights: d.below(8)}
	}
	return api.Cap{Kind: api.Node + d.below(8), Obj: unit, Rights: d.below(8)}
}

// stir changes the table beside Make: what it has is dropped, copied, moved, or something new is put there.
func (d *draw) stir(t *testing.T, w *world) {
	t.Helper()
	l := w.all()
	p, to := of(d, l), at(1+d.below(2), d.below(api.Slots))
	full := w.has(to)
	switch d.below(8) {
	case 0:
		if !full {
			c := w.want[p].c
			c.Rights &= d.below(8)
			w.put(t, to, c, p)
		}
	case 1:
		if !full {
			w.move(t, p, to)
		}
	case 2:
		if !full && d.below(3) == 0 {
			w.put(t, to, d.cap(), none)
		}
	case 3:
		w.take(t, units(w.want[p].c.Obj, max(w.want[p].c.Size, 1)), d.count())
	default:
		if len(l) > 1 {
			w.drop(t, p)
		}
	}
}

// begin is one Untyped of many units, at times with another one that has some of them, or with objects among them.
func begin(t *testing.T, d *draw) *world {
	t.Helper()
	w := newWorld(t, line{at(1, 0), untyped(1+d.below(20), 3+d.below(12)), none})
	for slot := 1; d.below(2) == 0 && slot < 5; slot++ {
		w.put(t, at(64, slot), d.cap(), none)
	}
	return w
}

// tally counts what the drawn calls came to: a test of them is worth little where some case never comes.
type tally struct {
	codes        map[int]int
	again, reset int
}

func (d *draw) act(t *testing.T, w *world, n *tally) answer {
	t.Helper()
	from, to := d.from(w), d.place()
	kind, size := d.asked()
	above := w.want[from].c
	r := units(above.Obj, above.Size)
	before := w.used[r]
	a := w.make(t, from, to, kind, size)
	n.codes[a.code]++
	if a.code == api.Fine && before > 0 && a.c.Obj == r.Base {
		n.again++
	}
	if a.code == api.EMem && before > 0 && w.used[r] == 0 {
		n.reset++
	}
	return a
}

func TestP9_2DrawnCallsAgainstTheReference(t *testing.T) {
	n := tally{codes: map[int]int{}}
	for seed := 1; seed <= 80; seed++ {
		d := draw(seed * 7919)
		w := begin(t, &d)
		for range 120 {
			d.act(t, w, &n)
			if d.below(3) == 0 {
				d.stir(t, w)
			}
		}
	}
	for _, code := range []int{api.Fine, api.EEmpty, api.EKind, api.ERange, api.EFull, api.EMem} {
		if n.codes[code] < 100 {
			t.Errorf("too few of the code %d: %+v", code, n)
		}
	}
	if n.again < 100 || n.reset < 20 {
		t.Errorf("too few of one case: %+v", n)
	}
}

// All that was made is dropped, in some order: then the first of the units is made again.
func TestP9_2DrawnDropsUntilTheRangeIsFreeAgain(t *testing.T) {
	for seed := 1; seed <= 60; seed++ {
		d := draw(seed * 104729)
		n := tally{codes: map[int]int{}}
		w := newWorld(t, line{at(3, 0), untyped(9, 12), none})
		for range 40 {
			d.act(t, w, &n)
		}
		for len(w.want) > 1 {
			if p := of(&d, w.all()); p != at(3, 0) {
				w.drop(t, p)
			}
		}
		w.makeIs(t, at(3, 0), at(64, 15), api.Untyped, 12, "{1 9 12 0 7} 0")
	}
}

// What a call answers hangs on the calls before on the same table and the same marks alone.
func TestP9_2DrawnCallsAreTheSameAgain(t *testing.T) {
	answers := func() (out []string) {
		n := tally{codes: map[int]int{}}
		d := draw(4711)
		w := begin(t, &d)
		for range 150 {
			out = append(out, d.act(t, w, &n).String())
			d.stir(t, w)
		}
		return out
	}
	first := answers()
	for range 5 {
		if again := answers(); !slices.Equal(again, first) {
			t.Fatal(first, again)
		}
	}
}
