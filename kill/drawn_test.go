package kill_test

import (
	"fmt"
	"slices"
	"testing"

	"ringkern/api"
)

// draw is a row of numbers that look like none, the same at each run.
type draw uint64

func (d *draw) below(n int) int {
	*d ^= *d << 13
	*d ^= *d >> 7
	*d ^= *d << 17
	return int(uint64(*d) >> 11 % uint64(n))
}

// of is one of a list.
func of[T any](d *draw, l []T) T { return l[d.below(len(l))] }

// place is in one of so few nodes that these often stand in one another; at times it can't be.
func (d *draw) place() api.Place {
	if d.below(25) == 0 {
		return of(d, cantBe())
	}
	return at(1+d.below(7), d.below(api.Slots))
}

// cap is of one of so few objects that several name the same one; one in six is a node.
func (d *draw) cap() api.Cap {
	unit, rights := 1+d.below(7), d.below(8)
	switch d.below(12) {
	case 0, 1:
		size := d.below(9)
		return api.Cap{Kind: api.Node, Obj: unit, Size: size, Badge: d.below(1 << size), Rights: rights}
	case 3:
		return api.Cap{Kind: api.Untyped, Obj: unit, Size: 1 + d.below(3), Rights: rights}
	case 4, 5:
		return api.Cap{Kind: of(d, []int{api.Endpoint, api.Notif}), Obj: unit, Badge: d.below(3), Rights: rights}
	}
	return api.Cap{Kind: of(d, []int{api.Frame, api.Thread, api.Reply, api.Space, api.Ring}), Obj: unit, Rights: rights}
}

// known is mostly a place that has one.
func (d *draw) known(w *world) api.Place {
	if l := w.all(); len(l) > 0 && d.below(6) > 0 {
		return of(d, l)
	}
	return d.place()
}

// grow puts some, mostly below others that are there.
func (d *draw) grow(t *testing.T, w *world, most int) {
	t.Helper()
	for range 4 * most {
		p, parent, c := at(1+d.below(7), d.below(api.Slots)), none, d.cap()
		if l := w.all(); len(l) > 0 && d.below(5) > 0 {
			parent = of(d, l)
			c = d.child(w, parent)
		}
		if len(w.want) < most && !w.has(p) {
			w.put(t, p, c, parent)
		}
	}
}

// child is at times a copy, at times the node that its parent stands in, which a revoke of the parent may take away.
func (d *draw) child(w *world, parent api.Place) api.Cap {
	switch d.below(6) {
	case 0, 1:
		c := w.want[parent].c
		c.Rights &= d.below(8)
		return c
	case 2:
		if c := node(parent.Node); !w.named(c) {
			return c
		}
	}
	return d.cap()
}

// tally counts what the drawn calls came to: a test of them is worth little where some case never comes.
type tally struct{ deletes, revokes, empty, stays, one, several, self int }

func (n *tally) count(a answer, self bool) {
	switch {
	case a.code != api.Fine:
		n.empty++
	case len(a.gone) == 0:
		n.stays++
	case len(a.gone) == 1:
		n.one++
	default:
		n.several++
	}
	if self {
		n.self++
	}
}

func (d *draw) act(t *testing.T, w *world, n *tally) answer {
	t.Helper()
	p := d.known(w)
	if d.below(3) > 0 {
		n.deletes++
		a := w.delete(t, p)
		n.count(a, false)
		return a
	}
	n.revokes++
	had := w.has(p)
	a := w.revoke(t, p)
	n.count(a, had && !w.has(p))
	return a
}

func TestP8_1DrawnCallsAgainstTheReference(t *testing.T) {
	var n tally
	for seed := 1; seed <= 60; seed++ {
		d, w := draw(seed*7919), newWorld(t)
		for i := range 60 {
			d.grow(t, w, 8+i%50)
			for range 1 + d.below(4) {
				d.act(t, w, &n)
			}
		}
	}
	for _, x := range []int{n.deletes, n.revokes, n.empty, n.stays, n.one, n.several, n.self} {
		if x < 40 {
			t.Errorf("too few of one case: %+v", n)
		}
	}
}

// A table is worn down to nothing, by deletes alone.
func TestP8_1DrawnDeletesUntilNothingIsLeft(t *testing.T) {
	for seed := 1; seed <= 60; seed++ {
		d, w := draw(seed*104729), newWorld(t)
		d.grow(t, w, 60)
		objects := map[string]bool{}
		for _, x := range w.want {
			objects[name(x.c)] = true
		}
		gone := 0
		for len(w.want) > 0 {
			gone += len(w.delete(t, of(&d, w.all())).gone)
		}
		if gone != len(objects) {
			t.Error("of", len(objects), "objects went", gone)
		}
	}
}

// name is the same of two capabilities of one object.
func name(c api.Cap) string {
	if c.Kind != api.Untyped {
		c.Size = 0
	}
	return fmt.Sprint(c.Kind, c.Obj, c.Size)
}

// Behind a revoke nothing is below the place, whether or not it is still there.
func TestP8_2DrawnRevokesLeaveNothingBelow(t *testing.T) {
	self := 0
	for seed := 1; seed <= 200; seed++ {
		d, w := draw(seed*15485863), newWorld(t)
		d.grow(t, w, 50)
		p := of(&d, w.all())
		w.revoke(t, p)
		if l := w.table.Below(p); len(l) > 0 {
			t.Error("below", p, "are", l)
		}
		if !w.has(p) {
			self++
		}
	}
	if self < 5 {
		t.Error("one that is revoked went itself", self)
	}
}

// What a call answers hangs on the calls before on the same table alone.
func TestP8_2DrawnCallsAreTheSameAgain(t *testing.T) {
	answers := func() (out []string) {
		var n tally
		d, w := draw(4711), newWorld(t)
		for range 60 {
			d.grow(t, w, 40)
			out = append(out, d.act(t, w, &n).String(), d.act(t, w, &n).String())
		}
		return out
	}
	first := answers()
	for range 5 {
		if again := answers(); !slices.Equal(again, first) {
			t.Fatal(first, again)
		}
	}
}
