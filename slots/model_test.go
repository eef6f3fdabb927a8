package slots_test

import (
	"fmt"
	"math"
	"slices"
	"testing"

	"ringkern/api"
	"ringkern/slots"
)

var none api.Place

func at(node, slot int) api.Place { return api.Place{Node: node, Slot: slot} }

// far are numbers that no node and no slot is, some of which a sum, or a cut to fewer bits, would carry to one that is.
func far() []int {
	return []int{math.MinInt, math.MinInt + 1, math.MinInt + 16, -1 << 62, -1<<32 + 1, -1 << 32, math.MinInt32, -1 << 16, -256, -64, -16, -2, -1,
		api.MaxUnits + 1, 128, 255, 256, 257, 1 << 16, 1<<16 + 1, math.MaxInt32, 1 << 32, 1<<32 + 1, 1 << 62, math.MaxInt - 1, math.MaxInt}
}

func nodes() []int {
	return append(far(), 0, 1, 2, api.MaxUnits-1, api.MaxUnits)
}

func slotNumbers() []int {
	return append(far(), 0, 1, api.Slots-2, api.Slots-1, api.Slots, api.Slots+1)
}

// rightCaps are some that can be: several that name one thing, and such as differ in one number alone.
func rightCaps() []api.Cap {
	return []api.Cap{
		{Kind: api.Frame, Obj: 9, Rights: 7}, {Kind: api.Frame, Obj: 9}, {Kind: api.Frame, Obj: 10, Rights: 7},
		{Kind: api.Endpoint, Obj: 9, Badge: 1, Rights: 7}, {Kind: api.Endpoint, Obj: 9, Badge: math.MaxInt32, Rights: 2}, {Kind: api.Notif, Obj: 9, Badge: 1},
		{Kind: api.Node, Obj: 9, Size: 8, Badge: 255, Rights: 1}, {Kind: api.Node, Obj: 9, Rights: 1},
		{Kind: api.Untyped, Obj: 9, Size: 1}, {Kind: api.Untyped, Obj: 9, Size: 2, Rights: 7}, {Kind: api.Untyped, Obj: 9, Size: 2}, {Kind: api.Untyped, Obj: 1, Size: api.MaxUnits},
		{Kind: api.Thread, Obj: 1}, {Kind: api.Reply, Obj: 1}, {Kind: api.Space, Obj: api.MaxUnits}, {Kind: api.Ring, Obj: api.MaxUnits, Rights: 7},
	}
}

// wrongCaps are some that can't be; several name what a right one names.
func wrongCaps() []api.Cap {
	return []api.Cap{
		{}, {Obj: 9}, {Kind: api.Ring + 1, Obj: 9}, {Kind: -1, Obj: 9}, {Kind: math.MaxInt, Obj: 9}, {Kind: math.MinInt, Obj: 9},
		{Kind: api.Frame}, {Kind: api.Frame, Obj: api.MaxUnits + 1}, {Kind: api.Frame, Obj: math.MinInt}, {Kind: api.Frame, Obj: math.MaxInt},
		{Kind: api.Frame, Obj: 9, Rights: 8}, {Kind: api.Frame, Obj: 9, Rights: -1}, {Kind: api.Frame, Obj: 9, Size: 1}, {Kind: api.Frame, Obj: 9, Badge: 1},
		{Kind: api.Untyped, Obj: 9}, {Kind: api.Untyped, Obj: 9, Size: api.MaxUnits}, {Kind: api.Untyped, Obj: 9, Size: 2, Badge: 1}, {Kind: api.Untyped, Obj: 9, Size: math.MaxInt},
		{Kind: api.Node, Obj: 9, Size: 9}, {Kind: api.Node, Obj: 9, Size: 1, Badge: 2},
		{Kind: api.Endpoint, Obj: 9, Badge: -1}, {Kind: api.Endpoint, Obj: 9, Badge: math.MaxInt32 + 1}, {Kind: api.Notif, Obj: 9, Size: 1},
	}
}

// cell is what the model has of a place.
type cell struct {
	has    bool
	c      api.Cap
	parent api.Place
}

// model is what a table should have, a cell for each place there may be, so that going over it is going up.
type model [api.MaxUnits][api.Slots]cell

// at is nil of a place that can't be.
func (m *model) at(p api.Place) *cell {
	for node := range m {
		if p.Node != node+1 {
			continue
		}
		for slot := range m[node] {
			if p.Slot == slot {
				return &m[node][slot]
			}
		}
	}
	return nil
}

func (m *model) has(p api.Place) bool {
	c := m.at(p)
	return c != nil && c.has
}

func (m *model) free(p api.Place) bool {
	c := m.at(p)
	return c != nil && !c.has
}

func (m *model) put(p api.Place, c api.Cap, parent api.Place) bool {
	if !m.free(p) || !slices.Contains(rightCaps(), c) || parent != none && !m.has(parent) {
		return false
	}
	*m.at(p) = cell{true, c, parent}
	return true
}

// adopt gives each child of from to another parent.
func (m *model) adopt(from, to api.Place) {
	for node := range m {
		for slot := range m[node] {
			if c := &m[node][slot]; c.has && c.parent == from {
				c.parent = to
			}
		}
	}
}

func (m *model) drop(p api.Place) bool {
	if !m.has(p) {
		return false
	}
	m.adopt(p, m.at(p).parent)
	*m.at(p) = cell{}
	return true
}

func (m *model) move(from, to api.Place) bool {
	if !m.has(from) || !m.free(to) {
		return false
	}
	m.adopt(from, to)
	*m.at(to) = *m.at(from)
	*m.at(from) = cell{}
	return true
}

// those are the places of which wanted holds, in the order in which the model is gone over.
func (m *model) those(wanted func(c cell) bool) []api.Place {
	var out []api.Place
	for node := range m {
		for slot, c := range m[node] {
			if c.has && wanted(c) {
				out = append(out, at(node+1, slot))
			}
		}
	}
	return out
}

func (m *model) all() []api.Place {
	return m.those(func(cell) bool { return true })
}

func (m *model) children(p api.Place) []api.Place {
	return m.those(func(c cell) bool { return p != none && c.parent == p })
}

// below goes from each place up to where there is no parent, and looks whether it meets p.
func (m *model) below(p api.Place) []api.Place {
	return m.those(func(c cell) bool {
		for up := c.parent; up != none; up = m.at(up).parent {
			if up == p {
				return true
			}
		}
		return false
	})
}

func (m *model) named(by api.Cap) []api.Place {
	return m.those(func(c cell) bool {
		if by.Kind == api.Untyped && by.Size != c.c.Size {
			return false
		}
		return by.Kind == c.c.Kind && by.Obj == c.c.Obj
	})
}

// both is a table and what it should have; asked are the places that are looked at behind each step.
type both struct {
	table *slots.Table
	model model
	asked []api.Place
}

// edges are places that can't be, and those beside them.
func edges() []api.Place {
	return []api.Place{none, at(0, 1), at(1, -1), at(1, 0), at(1, api.Slots-1), at(1, api.Slots), at(2, 0), at(-1, 0),
		at(api.MaxUnits, -1), at(api.MaxUnits, 0), at(api.MaxUnits, api.Slots-1), at(api.MaxUnits, api.Slots), at(api.MaxUnits+1, 0),
		at(math.MinInt, math.MinInt), at(math.MaxInt, math.MaxInt), at(1<<32+1, 1<<32), at(1, 1<<32), at(1<<32, 0)}
}

func newBoth(asked ...api.Place) *both {
	return &both{table: &slots.Table{}, asked: append(edges(), asked...)}
}

func (b *both) check(t *testing.T, what string) {
	t.Helper()
	same(t, b.table.All(), b.model.all(), what+": All")
	for _, p := range append(b.model.all(), b.asked...) {
		b.checkPlace(t, p, what)
	}
	for _, c := range append(rightCaps(), wrongCaps()...) {
		same(t, b.table.Named(c), b.model.named(c), what+": Named", c)
	}
}

func (b *both) checkPlace(t *testing.T, p api.Place, what string) {
	t.Helper()
	var want cell
	if b.model.has(p) {
		want = *b.model.at(p)
	}
	c, is := b.table.Get(p)
	if got := (cell{is, c, b.table.Parent(p)}); got != want {
		t.Fatalf("%s: of %v it has %+v, not %+v", what, p, got, want)
	}
	same(t, b.table.Children(p), b.model.children(p), what+": Children", p)
	same(t, b.table.Below(p), b.model.below(p), what+": Below", p)
}

func same(t *testing.T, got, want []api.Place, what ...any) {
	t.Helper()
	if !slices.Equal(got, want) {
		t.Fatalf("%v: %v, not %v", what, got, want)
	}
}

func (b *both) put(t *testing.T, p api.Place, c api.Cap, parent api.Place) {
	t.Helper()
	what := fmt.Sprintf("Put(%v, %+v, %v)", p, c, parent)
	b.step(t, what, b.table.Put(p, c, parent), b.model.put(p, c, parent))
}

func (b *both) drop(t *testing.T, p api.Place) {
	t.Helper()
	b.step(t, fmt.Sprintf("Drop(%v)", p), b.table.Drop(p), b.model.drop(p))
}

func (b *both) move(t *testing.T, from, to api.Place) {
	t.Helper()
	b.step(t, fmt.Sprintf("Move(%v, %v)", from, to), b.table.Move(from, to), b.model.move(from, to))
}

// step holds all that can be asked of the table against the model, so that a refused call is seen to change nothing.
func (b *both) step(t *testing.T, what string, got, want bool) {
	t.Helper()
	if got != want {
		t.Fatalf("%s: %v, not %v", what, got, want)
	}
	b.check(t, what)
}
