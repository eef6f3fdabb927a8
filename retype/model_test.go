package retype_test

import (
	"fmt"
	"math"
	"slices"
	"testing"

	"ringkern/api"
	"ringkern/retype"
	"ringkern/slots"
)

var none api.Place

func at(node, slot int) api.Place { return api.Place{Node: node, Slot: slot} }

func units(base, size int) api.Range { return api.Range{Base: base, Size: size} }

// far are numbers beyond every bound, some of which a sum, a difference, or a cut to fewer bits, would carry to one that is within.
func far() []int {
	return []int{math.MinInt, math.MinInt + 1, math.MinInt + 7, -1 << 62, -1<<32 + 1, -1 << 32, math.MinInt32, -1 << 16, -256, -255, -64, -16, -8, -2, -1,
		api.MaxUnits + 1, 128, 255, 256, 257, 1 << 16, 1<<16 + 1, math.MaxInt32, 1 << 31, 1 << 32, 1<<32 + 1, 1 << 62, math.MaxInt - 1, math.MaxInt}
}

// cantBe are places that are none, with those that a careless bound would take.
func cantBe() []api.Place {
	out := []api.Place{none, at(0, 1), at(0, 15), at(1, 16), at(64, 16), at(65, 15), at(65, 16), at(2, 16), at(2, 17), at(63, 32)}
	for _, n := range far() {
		out = append(out, at(n, 0), at(n, 15), at(n, n), at(1, n), at(2, n), at(64, n))
	}
	return out
}

// allPlaces are those that may be, rising.
func allPlaces() []api.Place {
	var out []api.Place
	for node := 1; node <= 64; node++ {
		for slot := range 16 {
			out = append(out, at(node, slot))
		}
	}
	return out
}

// allRanges are those that an Untyped may have.
func allRanges() []api.Range {
	var out []api.Range
	for base := 1; base <= 64; base++ {
		for size := 1; base+size <= 65; size++ {
			out = append(out, units(base, size))
		}
	}
	return out
}

// made are the kinds that are made, but for an Untyped; notMade those that aren't.
func made() []int    { return []int{api.Node, api.Frame, api.Endpoint, api.Notif, api.Reply} }
func notMade() []int { return append(far(), 0, api.Thread, api.Space, api.Ring, api.Ring+1) }

func frame(unit int) api.Cap { return ofKind(api.Frame, unit) }

func untyped(unit, size int) api.Cap {
	return api.Cap{Kind: api.Untyped, Obj: unit, Size: size, Rights: 7}
}

// ofKind is a right capability of that kind, without a badge or a guard; of an Untyped, to one unit.
func ofKind(kind, unit int) api.Cap {
	if kind == api.Untyped {
		return untyped(unit, 1)
	}
	return api.Cap{Kind: kind, Obj: unit, Rights: 7}
}

// cell is what a place should have.
type cell struct {
	c      api.Cap
	parent api.Place
}

// world is a table and marks and, beside them, what they should have.
type world struct {
	table *slots.Table
	marks *retype.Marks
	want  map[api.Place]cell
	used  map[api.Range]int
}

// line is one that a table begins with.
type line struct {
	p      api.Place
	c      api.Cap
	parent api.Place
}

func newWorld(t *testing.T, l ...line) *world {
	t.Helper()
	w := &world{table: &slots.Table{}, marks: &retype.Marks{}, want: map[api.Place]cell{}, used: map[api.Range]int{}}
	for _, x := range l {
		w.put(t, x.p, x.c, x.parent)
	}
	return w
}

func (w *world) put(t *testing.T, p api.Place, c api.Cap, parent api.Place) {
	t.Helper()
	if !w.table.Put(p, c, parent) {
		t.Fatalf("Put(%v, %+v, %v)", p, c, parent)
	}
	w.want[p] = cell{c, parent}
}

func (w *world) drop(t *testing.T, p api.Place) {
	t.Helper()
	if !w.table.Drop(p) {
		t.Fatalf("Drop(%v)", p)
	}
	up := w.want[p].parent
	delete(w.want, p)
	w.rehang(p, up)
}

func (w *world) move(t *testing.T, from, to api.Place) {
	t.Helper()
	if !w.table.Move(from, to) {
		t.Fatalf("Move(%v, %v)", from, to)
	}
	w.want[to] = w.want[from]
	delete(w.want, from)
	w.rehang(from, to)
}

func (w *world) rehang(from, to api.Place) {
	for q, y := range w.want {
		if y.parent == from {
			w.want[q] = cell{y.c, to}
		}
	}
}

func (w *world) has(p api.Place) bool {
	_, is := w.want[p]
	return is
}

// takes lists the units that are left, one by one.
func (w *world) takes(r api.Range, n int) (int, bool) {
	var left []int
	for i := range r.Size {
		if i >= w.used[r] {
			left = append(left, r.Base+i)
		}
	}
	if n < 1 || len(left) < n {
		return 0, false
	}
	w.used[r] += n
	return left[0], true
}

// unitsOf counts up what a capability has.
func unitsOf(c api.Cap) map[int]bool {
	out := map[int]bool{c.Obj: true}
	if c.Kind == api.Untyped {
		for i := range c.Size {
			out[c.Obj+i] = true
		}
	}
	return out
}

// free looks at each unit of the range in each capability.
func (w *world) free(r api.Range) bool {
	for _, x := range w.want {
		has, some, all := unitsOf(x.c), false, true
		for i := range r.Size {
			some = some || has[r.Base+i]
			all = all && has[r.Base+i]
		}
		same := x.c.Kind == api.Untyped && x.c.Obj == r.Base && x.c.Size == r.Size
		above := x.c.Kind == api.Untyped && all
		if some && !same && !above {
			return false
		}
	}
	return true
}

// firstCode is the code that the chapter names ahead of any look at the range.
func (w *world) firstCode(from, to api.Place, kind, size int) int {
	one := slices.Contains(made(), kind)
	for _, x := range []struct {
		is   bool
		code int
	}{
		{!w.has(from), api.EEmpty},
		{w.want[from].c.Kind != api.Untyped, api.EKind},
		{!slices.Contains(allPlaces(), to), api.ERange},
		{w.has(to), api.EFull},
		{kind != api.Untyped && !one, api.EKind},
		{kind == api.Untyped && (size < 1 || size > 64), api.ERange},
		{one && size != 0, api.ERange},
	} {
		if x.is {
			return x.code
		}
	}
	return api.Fine
}

func (w *world) makes(from, to api.Place, kind, size int) (api.Cap, int) {
	if code := w.firstCode(from, to, kind, size); code != api.Fine {
		return api.Cap{}, code
	}
	above := w.want[from].c
	r := units(above.Obj, above.Size)
	if w.free(r) {
		w.used[r] = 0
	}
	n := 1
	if kind == api.Untyped {
		n = size
	}
	first, is := w.takes(r, n)
	if !is {
		return api.Cap{}, api.EMem
	}
	c := api.Cap{Kind: kind, Obj: first, Size: size, Rights: 7}
	w.want[to] = cell{c, from}
	return c, api.Fine
}

func (w *world) take(t *testing.T, r api.Range, n int) (int, bool) {
	t.Helper()
	what := fmt.Sprintf("Take(%+v, %d)", r, n)
	want, wantIs := w.takes(r, n)
	got, is := w.marks.Take(r, n)
	if got != want || is != wantIs {
		t.Fatalf("%s: %d, %v, not %d, %v", what, got, is, want, wantIs)
	}
	w.checkMarks(t, what)
	return got, is
}

func (w *world) reset(t *testing.T, r api.Range) {
	t.Helper()
	w.used[r] = 0
	w.marks.Reset(r)
	w.checkMarks(t, fmt.Sprintf("Reset(%+v)", r))
}

// answer is what Make tells.
type answer struct {
	c    api.Cap
	code int
}

func told(c api.Cap, code int) answer { return answer{c, code} }

func (a answer) String() string { return fmt.Sprint(a.c, a.code) }

// make looks at the whole table and at all ranges, so that a call that tells a code is seen to change nothing.
func (w *world) make(t *testing.T, from, to api.Place, kind, size int) answer {
	t.Helper()
	what := fmt.Sprintf("Make(%v, %v, %d, %d)", from, to, kind, size)
	want := told(w.makes(from, to, kind, size))
	got := told(retype.Make(w.table, w.marks, from, to, kind, size))
	if got != want {
		t.Fatalf("%s: %v, not %v", what, got, want)
	}
	w.check(t, what)
	return got
}

// makeIs holds it against what is written out, too: the model could be wrong.
func (w *world) makeIs(t *testing.T, from, to api.Place, kind, size int, want string) {
	t.Helper()
	if got := w.make(t, from, to, kind, size); got.String() != want {
		t.Errorf("Make(%v, %v, %d, %d): %v, not %s", from, to, kind, size, got, want)
	}
}

func (w *world) usedIs(t *testing.T, base, size, want int) {
	t.Helper()
	if got := w.marks.Used(units(base, size)); got != want {
		t.Errorf("of %d from %d on are used %d, not %d", size, base, got, want)
	}
}

func (w *world) check(t *testing.T, what string) {
	t.Helper()
	if got, want := w.table.All(), w.all(); !slices.Equal(got, want) {
		t.Fatalf("%s: places %v, not %v", what, got, want)
	}
	for p, x := range w.want {
		c, is := w.table.Get(p)
		if got := (cell{c, w.table.Parent(p)}); !is || got != x {
			t.Fatalf("%s: %v has %+v, %v, not %+v", what, p, got, is, x)
		}
	}
	w.checkMarks(t, what)
}

func (w *world) checkMarks(t *testing.T, what string) {
	t.Helper()
	for _, r := range ranges {
		if got := w.marks.Used(r); got != w.used[r] {
			t.Fatalf("%s: of %+v are used %d, not %d", what, r, got, w.used[r])
		}
	}
	for r, n := range w.used {
		if got := w.marks.Used(r); got != n {
			t.Fatalf("%s: of %+v are used %d, not %d", what, r, got, n)
		}
	}
}

// ranges are those that are looked at behind each step: all that can be, and some that can't.
var ranges = append(allRanges(), api.Range{}, units(0, 1), units(1, 0), units(5, -1), units(65, 1), units(-3, 9), units(1, 65))

// all are the places that should have one, rising.
func (w *world) all() []api.Place {
	var out []api.Place
	for p := range w.want {
		out = append(out, p)
	}
	slices.SortFunc(out, func(a, b api.Place) int { return a.Node*16 + a.Slot - b.Node*16 - b.Slot })
	return out
}

// stays holds the places that have one, and their parents, against what is written out.
func (w *world) stays(t *testing.T, want string) {
	t.Helper()
	var parents []api.Place
	for _, p := range w.table.All() {
		parents = append(parents, w.table.Parent(p))
	}
	if got := fmt.Sprint(w.table.All(), parents); got != want {
		t.Errorf("there are %s, not %s", got, want)
	}
}
