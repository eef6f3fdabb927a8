package list_test

import (
	"fmt"
	"math"
	"slices"
	"testing"

	"ringkern/api"
	"ringkern/list"
)

// far are numbers beyond every bound, some of which a difference, a change of sign, or a cut to fewer bits, would carry to one that is within.
func far() []int {
	return []int{math.MinInt, math.MinInt + 1, -1 << 62, -1<<32 + 1, -1 << 32, math.MinInt32, -1 << 16, -256, -255, -16, -2, -1,
		4, 8, 16, 255, 256, 257, 1 << 16, 1<<16 + 1, math.MaxInt32, 1 << 31, 1 << 32, 1<<32 + 1, 1 << 62, math.MaxInt - 1, math.MaxInt}
}

func id(ring, seq int) api.ID { return api.ID{Ring: ring, Seq: seq} }

// ids are IDs that differ in one number, in both, or have them the other way round.
func ids() []api.ID {
	var out []api.ID
	for _, n := range append(far(), 2, 3) {
		out = append(out, id(n, 0), id(0, n), id(n, 1), id(1, n), id(n, n))
	}
	for _, n := range []int{math.MinInt, -1, 2, math.MaxInt} {
		out = append(out, id(n, n-5), id(n, 3), id(3, n))
	}
	return append(out, id(0, 0), id(0, 1), id(1, 0), id(1, 1), id(2, 4), id(4, 2))
}

// model is who should be in a list, one behind the other.
type model []api.ID

func (m model) has(x api.ID) bool {
	for _, y := range m {
		if y.Ring == x.Ring && y.Seq == x.Seq {
			return true
		}
	}
	return false
}

func (m *model) push(x api.ID) bool {
	if m.has(x) {
		return false
	}
	*m = append(*m, x)
	return true
}

func (m *model) drop(x api.ID) bool {
	var left model
	for _, y := range *m {
		if y.Ring != x.Ring || y.Seq != x.Seq {
			left = append(left, y)
		}
	}
	was := m.has(x)
	*m = left
	return was
}

func (m *model) pop() popped {
	if len(*m) == 0 {
		return popped{}
	}
	x := (*m)[0]
	m.drop(x)
	return popped{x, true}
}

// popped is what Pop tells.
type popped struct {
	id api.ID
	is bool
}

func told(x api.ID, is bool) popped { return popped{x, is} }

// both is a list and what it should have.
type both struct {
	list  *list.List
	model model
}

// begin has these, pushed in this order.
func begin(t *testing.T, l ...api.ID) *both {
	t.Helper()
	b := &both{list: &list.List{}}
	for _, x := range l {
		if !b.push(t, x) {
			t.Fatal("Push", x)
		}
	}
	return b
}

// five is several, whose numbers neither rise nor fall, with the one of zeros in their midst.
func five() []api.ID { return []api.ID{id(3, 1), id(1, 2), id(0, 0), id(-1, 5), id(2, 2)} }

func some(t *testing.T) *both {
	t.Helper()
	return begin(t, five()...)
}

func (b *both) push(t *testing.T, x api.ID) bool {
	t.Helper()
	got := b.list.Push(x)
	b.step(t, "Push", x, got, b.model.push(x))
	return got
}

func (b *both) drop(t *testing.T, x api.ID) bool {
	t.Helper()
	got := b.list.Drop(x)
	b.step(t, "Drop", x, got, b.model.drop(x))
	return got
}

func (b *both) pop(t *testing.T) popped {
	t.Helper()
	got := told(b.list.Pop())
	b.step(t, "Pop", "", got, b.model.pop())
	return got
}

// step holds an answer, and then all that can be asked, against the model, so that a refused call is seen to change nothing.
func (b *both) step(t *testing.T, call string, x, got, want any) {
	t.Helper()
	if got != want {
		t.Fatalf("%s(%v): %v, not %v", call, x, got, want)
	}
	b.check(t, call, x)
}

func (b *both) check(t *testing.T, call string, x any) {
	t.Helper()
	if got := b.list.All(); !slices.Equal(got, b.model) {
		t.Fatalf("%s(%v): All: %v, not %v", call, x, got, b.model)
	}
	if got := b.list.Len(); got != len(b.model) {
		t.Fatalf("%s(%v): Len: %d, not %d", call, x, got, len(b.model))
	}
	for _, y := range ids() {
		if got, want := b.list.Has(y), b.model.has(y); got != want {
			t.Fatalf("%s(%v): Has(%v): %v, not %v", call, x, y, got, want)
		}
	}
	for _, y := range b.model {
		if !b.list.Has(y) {
			t.Fatalf("%s(%v): Has(%v): false", call, x, y)
		}
	}
}

// stands holds All against what is written out, as the model could be wrong.
func (b *both) stands(t *testing.T, want string) {
	t.Helper()
	b.check(t, "at the end", "")
	if got := fmt.Sprint(b.list.All()); got != want {
		t.Errorf("there are %s, not %s", got, want)
	}
}

// ends takes away one behind the other, from the front or from the back, and holds what is left at each step against the model: what All shows could be right, and what a list keeps beside it wrong.
func (b *both) ends(t *testing.T, back bool) {
	t.Helper()
	for len(b.model) > 0 {
		if back {
			b.drop(t, b.model[len(b.model)-1])
		} else {
			b.pop(t)
		}
	}
	if b.pop(t).is || b.list.Len() != 0 {
		t.Error("somebody is left")
	}
}
