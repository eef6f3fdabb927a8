package reply_test

import (
	"fmt"
	"math"
	"testing"

	"ringkern/api"
	"ringkern/reply"
)

// far are numbers beyond every bound, some of which a difference, a change of sign, or a cut to fewer bits, would carry to one that is within.
func far() []int {
	return []int{math.MinInt, math.MinInt + 1, -1 << 62, -1<<32 + 1, -1 << 32, math.MinInt32, -1 << 16, -256, -255, -16, -2, -1,
		4, 8, 16, 255, 256, 257, 1 << 16, 1<<16 + 1, math.MaxInt32, 1 << 31, 1 << 32, 1<<32 + 1, 1 << 62, math.MaxInt - 1, math.MaxInt}
}

func id(ring, seq int) api.ID { return api.ID{Ring: ring, Seq: seq} }

// ids are IDs that differ in one number, in both, or have them the other way round.
func ids() []api.ID {
	var out []api.ID
	for _, n := range append(far(), 2, 3) {
		out = append(out, id(n, 0), id(0, n), id(n, 1), id(1, n), id(n, n))
	}
	for _, n := range []int{math.MinInt, -1, 2, math.MaxInt} {
		out = append(out, id(n, n-5), id(n, 3), id(3, n))
	}
	return append(out, id(0, 0), id(0, 1), id(1, 0), id(1, 1), id(2, 4), id(4, 2))
}

// model is what a cell should have: a row of whoever waits, which is one at most.
type model []api.ID

// caller is who waits, and whether somebody does.
func (m model) caller() told {
	for _, x := range m {
		return told{x, true}
	}
	return told{}
}

func (m *model) bind(x api.ID) told {
	ahead := m.caller()
	*m = model{x}
	return ahead
}

func (m *model) take() told {
	taken := m.caller()
	*m = nil
	return taken
}

func (m *model) drop(x api.ID) bool {
	var left model
	for _, y := range *m {
		if y.Ring != x.Ring || y.Seq != x.Seq {
			left = append(left, y)
		}
	}
	is := len(left) != len(*m)
	*m = left
	return is
}

// told is what Bind, Caller and Take tell.
type told struct {
	id api.ID
	is bool
}

func tell(x api.ID, is bool) told { return told{x, is} }

// nobody is what they tell where nobody waits.
var nobody = told{}

// both is a cell and what it should have.
type both struct {
	cell  *reply.Cell
	model model
}

func begin(t *testing.T) *both {
	t.Helper()
	b := &both{cell: &reply.Cell{}}
	b.check(t, "begin", "")
	return b
}

// bound is a cell at which this one waits.
func bound(t *testing.T, x api.ID) *both {
	t.Helper()
	b := begin(t)
	if g := b.bind(t, x); g != nobody {
		t.Fatal("Bind where nobody waits:", x, g)
	}
	return b
}

func (b *both) bind(t *testing.T, x api.ID) told {
	t.Helper()
	g := tell(b.cell.Bind(x))
	b.step(t, "Bind", x, g, b.model.bind(x))
	return g
}

func (b *both) take(t *testing.T) told {
	t.Helper()
	g := tell(b.cell.Take())
	b.step(t, "Take", "", g, b.model.take())
	return g
}

func (b *both) drop(t *testing.T, x api.ID) bool {
	t.Helper()
	g := b.cell.Drop(x)
	b.step(t, "Drop", x, g, b.model.drop(x))
	return g
}

// step holds an answer, and then who waits, against the model.
func (b *both) step(t *testing.T, call string, x, got, want any) {
	t.Helper()
	if got != want {
		t.Fatalf("%s(%v): %v, not %v", call, x, got, want)
	}
	b.check(t, call, x)
}

// check asks twice, as asking changes nothing.
func (b *both) check(t *testing.T, call string, x any) {
	t.Helper()
	for range 2 {
		if got, want := tell(b.cell.Caller()), b.model.caller(); got != want {
			t.Fatalf("%s(%v): Caller: %v, not %v", call, x, got, want)
		}
	}
}

// shown is who waits, shortly, as 3.1, or nobody.
func (b *both) shown() string {
	x, is := b.cell.Caller()
	switch {
	case is:
		return fmt.Sprint(x.Ring, ".", x.Seq)
	case x != api.ID{}:
		return fmt.Sprint("nobody, and beside that ", x)
	}
	return "nobody"
}

// stands holds who waits against what is written out, as the model could be wrong.
func (b *both) stands(t *testing.T, want string) {
	t.Helper()
	b.check(t, "at the end", "")
	if got := b.shown(); got != want {
		t.Errorf("there waits: %s; not: %s", got, want)
	}
}

// The ways in which one comes to wait no more.
const (
	taken = iota
	dropped
	putOut
	ways
)

// goes lets the one that waits wait no more, in one of the ways; the one that puts it out goes, too.
func (b *both) goes(t *testing.T, way int) {
	t.Helper()
	x := b.model.caller()
	switch way {
	case taken:
		if b.take(t) != x {
			t.Error("Take", x)
		}
	case dropped:
		if b.drop(t, x.id) != x.is {
			t.Error("Drop", x)
		}
	case putOut:
		other := id(77, 78)
		if b.bind(t, other) != x || x.id != other && b.drop(t, x.id) || !b.drop(t, other) {
			t.Error("Bind", x)
		}
	}
}

// ends lets go whoever waits, and holds what is left: what Caller tells could be right, and what is kept beside it wrong.
func (b *both) ends(t *testing.T, way int) {
	t.Helper()
	x := b.model.caller()
	b.goes(t, way)
	b.stands(t, "nobody")
	if b.drop(t, x.id) || b.drop(t, id(0, 0)) || b.drop(t, id(77, 78)) || b.take(t) != nobody || b.bind(t, x.id) != nobody || b.take(t) != (told{x.id, true}) {
		t.Error("somebody is left behind", x)
	}
	b.stands(t, "nobody")
}
