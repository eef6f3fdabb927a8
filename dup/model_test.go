package dup_test

import (
	"fmt"
	"math"
	"slices"
	"testing"

	"ringkern/api"
	"ringkern/dup"
	"ringkern/slots"
)

var none api.Place

func at(node, slot int) api.Place { return api.Place{Node: node, Slot: slot} }

// far are numbers beyond every bound, some of which a sum, or a cut to fewer bits, would carry to one that is within.
func far() []int {
	return []int{math.MinInt, math.MinInt + 1, math.MinInt + 7, -1 << 62, -1<<32 + 1, -1 << 32, math.MinInt32, -1 << 16, -256, -255, -64, -16, -8, -2, -1,
		api.MaxUnits + 1, 128, 255, 256, 257, 1 << 16, 1<<16 + 1, math.MaxInt32, 1 << 31, 1 << 32, 1<<32 + 1, 1 << 62, math.MaxInt - 1, math.MaxInt}
}

// words are edges of badges and guards.
func words() []uint32 {
	out := []uint32{1<<31 - 2, 1<<31 - 1, 1 << 31, 1<<31 + 1, 1<<32 - 2, 1<<32 - 1}
	for size := range uint32(12) {
		for _, guard := range []uint32{0, 1, 1<<size - 1, 1 << size, 1<<size + 1, 255, 256, 1<<23 - 1, 1 << 23, 1<<24 - 1} {
			out = append(out, guard<<8|size, guard<<8|size|128)
		}
	}
	return out
}

// ofKind is a right capability of that kind, without a badge or a guard.
func ofKind(kind int) api.Cap {
	c := api.Cap{Kind: kind, Obj: 10 + kind, Rights: 7}
	if kind == api.Untyped {
		c.Size = 3
	}
	return c
}

// marked are such as have a badge or a guard already.
func marked() []api.Cap {
	return []api.Cap{
		{Kind: api.Endpoint, Obj: 1, Badge: 1, Rights: 7}, {Kind: api.Endpoint, Obj: 64, Badge: math.MaxInt32, Rights: 1}, {Kind: api.Notif, Obj: 5, Badge: 77, Rights: 6},
		{Kind: api.Node, Obj: 6, Size: 8, Badge: 255, Rights: 5}, {Kind: api.Node, Obj: 6, Size: 1, Rights: 0}, {Kind: api.Node, Obj: 64, Size: 2, Badge: 3, Rights: 7},
	}
}

// various are one of each kind, with various rights, and the marked ones.
func various() []api.Cap {
	out := marked()
	for kind := api.Untyped; kind <= api.Ring; kind++ {
		for rights := range 8 {
			c := ofKind(kind)
			c.Rights = rights
			out = append(out, c)
		}
	}
	return append(out, api.Cap{Kind: api.Untyped, Obj: 1, Size: api.MaxUnits, Rights: 7}, api.Cap{Kind: api.Untyped, Obj: api.MaxUnits, Size: 1})
}

// cell is what a place should have.
type cell struct {
	c      api.Cap
	parent api.Place
}

// world is a table and, beside it, what it should have.
type world struct {
	table *slots.Table
	want  map[api.Place]cell
}

func newWorld() *world {
	return &world{table: &slots.Table{}, want: map[api.Place]cell{}}
}

func (w *world) put(t *testing.T, p api.Place, c api.Cap, parent api.Place) {
	t.Helper()
	if !w.table.Put(p, c, parent) {
		t.Fatalf("Put(%v, %+v, %v)", p, c, parent)
	}
	w.want[p] = cell{c, parent}
}

func (w *world) has(p api.Place) bool {
	_, is := w.want[p]
	return is
}

// mayBe looks for p among all places that there are.
func mayBe(p api.Place) bool {
	for node := range 64 {
		for slot := range 16 {
			if p == at(node+1, slot) {
				return true
			}
		}
	}
	return false
}

// amiss is the code that each of the calls tells first.
func (w *world) amiss(from, to api.Place) int {
	if !w.has(from) {
		return api.EEmpty
	}
	if !mayBe(to) {
		return api.ERange
	}
	if w.has(to) {
		return api.EFull
	}
	return api.Fine
}

// common is the rights that both have, one by one.
func common(a, b int) int {
	out := 0
	for _, r := range []int{1, 2, 4} {
		if a/r%2 == 1 && b/r%2 == 1 {
			out += r
		}
	}
	return out
}

// marking is what c is with the badge or guard n, or what is amiss.
func marking(c api.Cap, n uint32) (api.Cap, int) {
	switch c.Kind {
	case api.Endpoint, api.Notif:
		if c.Badge != 0 || n == 0 {
			return c, api.EBadge
		}
		if n >= 1<<31 {
			return c, api.ERange
		}
		c.Badge = int(n)
		return c, api.Fine
	case api.Node:
		c.Size, c.Badge = int(n%256), int(n/256)
		if c.Size > 8 || c.Badge >= []int{1, 2, 4, 8, 16, 32, 64, 128, 256}[c.Size] {
			return c, api.ERange
		}
		return c, api.Fine
	}
	return c, api.EKind
}

func (w *world) copied(from, to api.Place, rights int) int {
	if code := w.amiss(from, to); code != api.Fine {
		return code
	}
	if !slices.Contains([]int{0, 1, 2, 3, 4, 5, 6, 7}, rights) {
		return api.ERange
	}
	c := w.want[from].c
	c.Rights = common(c.Rights, rights)
	w.want[to] = cell{c, from}
	return api.Fine
}

func (w *world) minted(from, to api.Place, n uint32) int {
	if code := w.amiss(from, to); code != api.Fine {
		return code
	}
	c, code := marking(w.want[from].c, n)
	if code == api.Fine {
		w.want[to] = cell{c, from}
	}
	return code
}

func (w *world) moved(from, to api.Place) int {
	if code := w.amiss(from, to); code != api.Fine {
		return code
	}
	w.want[to] = w.want[from]
	delete(w.want, from)
	for p, x := range w.want {
		if x.parent == from {
			w.want[p] = cell{x.c, to}
		}
	}
	return api.Fine
}

func (w *world) copy(t *testing.T, from, to api.Place, rights int) int {
	t.Helper()
	return w.step(t, fmt.Sprintf("Copy(%v, %v, %d)", from, to, rights), dup.Copy(w.table, from, to, rights), w.copied(from, to, rights))
}

func (w *world) mint(t *testing.T, from, to api.Place, n uint32) int {
	t.Helper()
	return w.step(t, fmt.Sprintf("Mint(%v, %v, %#x)", from, to, n), dup.Mint(w.table, from, to, n), w.minted(from, to, n))
}

func (w *world) move(t *testing.T, from, to api.Place) int {
	t.Helper()
	return w.step(t, fmt.Sprintf("Move(%v, %v)", from, to), dup.Move(w.table, from, to), w.moved(from, to))
}

// step looks at the whole table, so that a call that tells a code is seen to change nothing.
func (w *world) step(t *testing.T, what string, got, want int) int {
	t.Helper()
	if got != want {
		t.Fatalf("%s: %d, not %d", what, got, want)
	}
	w.check(t, what)
	return got
}

func (w *world) check(t *testing.T, what string) {
	t.Helper()
	if got, want := w.table.All(), w.all(); !slices.Equal(got, want) {
		t.Fatalf("%s: places %v, not %v", what, got, want)
	}
	for p, x := range w.want {
		c, is := w.table.Get(p)
		if got := (cell{c, w.table.Parent(p)}); !is || got != x {
			t.Fatalf("%s: %v has %+v, %v, not %+v", what, p, got, is, x)
		}
	}
}

// checkTree holds the lists that a table tells of children against what should be there.
func (w *world) checkTree(t *testing.T, what string) {
	t.Helper()
	for p := range w.want {
		if got, want := w.table.Children(p), w.those(func(x cell) bool { return x.parent == p }); !slices.Equal(got, want) {
			t.Fatalf("%s: below %v are %v, not %v", what, p, got, want)
		}
	}
}

func (w *world) all() []api.Place {
	return w.those(func(cell) bool { return true })
}

func (w *world) those(wanted func(cell) bool) []api.Place {
	var out []api.Place
	for p, x := range w.want {
		if wanted(x) {
			out = append(out, p)
		}
	}
	slices.SortFunc(out, func(a, b api.Place) int { return a.Node*16 + a.Slot - b.Node*16 - b.Slot })
	return out
}
