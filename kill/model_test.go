package kill_test

import (
	"fmt"
	"math"
	"slices"
	"testing"

	"ringkern/api"
	"ringkern/kill"
	"ringkern/slots"
)

var none api.Place

func at(node, slot int) api.Place { return api.Place{Node: node, Slot: slot} }

// far are numbers beyond every bound, some of which a sum, or a cut to fewer bits, would carry to one that is within.
func far() []int {
	return []int{math.MinInt, math.MinInt + 1, math.MinInt + 7, -1 << 62, -1<<32 + 1, -1 << 32, math.MinInt32, -1 << 16, -256, -255, -64, -16, -8, -2, -1,
		api.MaxUnits + 1, 128, 255, 256, 257, 1 << 16, 1<<16 + 1, math.MaxInt32, 1 << 31, 1 << 32, 1<<32 + 1, 1 << 62, math.MaxInt - 1, math.MaxInt}
}

// cantBe are places that are none, with those that a careless bound would take.
func cantBe() []api.Place {
	out := []api.Place{none, at(0, 1), at(0, 15), at(1, 16), at(64, 16), at(65, 15), at(65, 16), at(2, 16), at(2, 17), at(63, 32)}
	for _, n := range far() {
		out = append(out, at(n, 0), at(n, 15), at(n, n), at(1, n), at(2, n), at(64, n))
	}
	return out
}

// allPlaces are those that may be, rising.
func allPlaces() []api.Place {
	var out []api.Place
	for node := 1; node <= 64; node++ {
		for slot := range 16 {
			out = append(out, at(node, slot))
		}
	}
	return out
}

func node(unit int) api.Cap  { return api.Cap{Kind: api.Node, Obj: unit, Rights: 7} }
func frame(unit int) api.Cap { return api.Cap{Kind: api.Frame, Obj: unit, Rights: 7} }

func untyped(unit, size int) api.Cap {
	return api.Cap{Kind: api.Untyped, Obj: unit, Size: size, Rights: 7}
}

// ofKind is a right capability of that kind, without a badge or a guard.
func ofKind(kind, unit int) api.Cap {
	if kind == api.Untyped {
		return untyped(unit, 1)
	}
	return api.Cap{Kind: kind, Obj: unit, Rights: 7}
}

// cell is what a place should have.
type cell struct {
	c      api.Cap
	parent api.Place
}

// world is a table and, beside it, what it should have.
type world struct {
	table *slots.Table
	want  map[api.Place]cell
}

// line is one that a table begins with.
type line struct {
	p      api.Place
	c      api.Cap
	parent api.Place
}

func newWorld(t *testing.T, l ...line) *world {
	t.Helper()
	w := &world{table: &slots.Table{}, want: map[api.Place]cell{}}
	for _, x := range l {
		w.put(t, x.p, x.c, x.parent)
	}
	return w
}

func (w *world) put(t *testing.T, p api.Place, c api.Cap, parent api.Place) {
	t.Helper()
	if !w.table.Put(p, c, parent) {
		t.Fatalf("Put(%v, %+v, %v)", p, c, parent)
	}
	w.want[p] = cell{c, parent}
}

func (w *world) has(p api.Place) bool {
	_, is := w.want[p]
	return is
}

func oneThing(a, b api.Cap) bool {
	if a.Kind == api.Untyped && a.Size != b.Size {
		return false
	}
	return [2]int{a.Kind, a.Obj} == [2]int{b.Kind, b.Obj}
}

func (w *world) named(c api.Cap) bool {
	for _, x := range w.want {
		if oneThing(x.c, c) {
			return true
		}
	}
	return false
}

func (w *world) drop(p api.Place) api.Cap {
	x := w.want[p]
	delete(w.want, p)
	for q, y := range w.want {
		if y.parent == p {
			w.want[q] = cell{y.c, x.parent}
		}
	}
	return x.c
}

// deleted keeps a list of the places that are still to be looked at: the slots of a node that went come ahead of all others.
func (w *world) deleted(p api.Place) ([]api.Object, int) {
	if !w.has(p) {
		return nil, api.EEmpty
	}
	var gone []api.Object
	for todo := []api.Place{p}; len(todo) > 0; {
		q := todo[0]
		todo = todo[1:]
		if !w.has(q) {
			continue
		}
		c := w.drop(q)
		if w.named(c) {
			continue
		}
		gone = append(gone, api.Object{Kind: c.Kind, Obj: c.Obj})
		if c.Kind == api.Node {
			var inside []api.Place
			for slot := range 16 {
				inside = append(inside, at(c.Obj, slot))
			}
			todo = append(inside, todo...)
		}
	}
	return gone, api.Fine
}

// isBelow goes up from q, parent by parent.
func (w *world) isBelow(q, p api.Place) bool {
	for up := w.want[q].parent; up != none; up = w.want[up].parent {
		if up == p {
			return true
		}
	}
	return false
}

func (w *world) firstBelow(p api.Place) (api.Place, bool) {
	for _, q := range w.all() {
		if w.isBelow(q, p) {
			return q, true
		}
	}
	return none, false
}

func (w *world) revoked(p api.Place) ([]api.Object, int) {
	if !w.has(p) {
		return nil, api.EEmpty
	}
	var gone []api.Object
	for w.has(p) {
		q, is := w.firstBelow(p)
		if !is {
			break
		}
		more, _ := w.deleted(q)
		gone = append(gone, more...)
	}
	return gone, api.Fine
}

// answer is what a call tells.
type answer struct {
	gone []api.Object
	code int
}

func told(gone []api.Object, code int) answer { return answer{gone, code} }

func (a answer) String() string { return fmt.Sprint(a.gone, a.code) }

func (w *world) delete(t *testing.T, p api.Place) answer {
	t.Helper()
	return w.step(t, fmt.Sprint("Delete ", p), told(kill.Delete(w.table, p)), told(w.deleted(p)))
}

func (w *world) revoke(t *testing.T, p api.Place) answer {
	t.Helper()
	return w.step(t, fmt.Sprint("Revoke ", p), told(kill.Revoke(w.table, p)), told(w.revoked(p)))
}

// step looks at the whole table, so that a call that tells a code is seen to change nothing.
func (w *world) step(t *testing.T, what string, got, want answer) answer {
	t.Helper()
	if got.code != want.code || !slices.Equal(got.gone, want.gone) {
		t.Fatalf("%s: %v, not %v", what, got, want)
	}
	w.check(t, what)
	return got
}

func (w *world) check(t *testing.T, what string) {
	t.Helper()
	if got, want := w.table.All(), w.all(); !slices.Equal(got, want) {
		t.Fatalf("%s: places %v, not %v", what, got, want)
	}
	for p, x := range w.want {
		c, is := w.table.Get(p)
		if got := (cell{c, w.table.Parent(p)}); !is || got != x {
			t.Fatalf("%s: %v has %+v, %v, not %+v", what, p, got, is, x)
		}
	}
}

// all are the places that should have one, rising.
func (w *world) all() []api.Place {
	var out []api.Place
	for p := range w.want {
		out = append(out, p)
	}
	slices.SortFunc(out, func(a, b api.Place) int { return a.Node*16 + a.Slot - b.Node*16 - b.Slot })
	return out
}
