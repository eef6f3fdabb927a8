package slots_test

import (
	"fmt"
	"slices"
	"testing"

	"ringkern/api"
	"ringkern/slots"
)

func frame() api.Cap { return api.Cap{Kind: api.Frame, Obj: 9, Rights: 7} }

// tree has two that have no parent, four levels below the first, and parents behind and ahead of their children in the order of places.
func tree(t *testing.T) *both {
	t.Helper()
	b := newBoth(at(5, 5), at(6, 6))
	for i, x := range []struct{ p, parent api.Place }{
		{at(2, 3), none}, {at(2, 4), at(2, 3)}, {at(1, 15), at(2, 3)}, {at(64, 0), at(2, 4)}, {at(1, 2), at(64, 0)},
		{at(64, 15), at(1, 2)}, {at(1, 0), at(64, 15)}, {at(2, 0), at(2, 4)}, {at(3, 0), none}, {at(30, 7), at(3, 0)},
	} {
		b.put(t, x.p, rightCaps()[i], x.parent)
	}
	return b
}

// line is a table where each place has the one before as its parent: so many, in a scattered order.
func line(t *testing.T, n int) (*slots.Table, []api.Place) {
	t.Helper()
	x, l := &slots.Table{}, scattered()[:n]
	parent := none
	for _, p := range l {
		if !x.Put(p, frame(), parent) {
			t.Fatal("Put", p, parent)
		}
		parent = p
	}
	return x, l
}

// scattered is each place that may be, once, in an order that is neither rising nor falling: 389 has no divisor in common with their number.
func scattered() []api.Place {
	var out []api.Place
	n := api.MaxUnits * api.Slots
	for i := range n {
		k := i * 389 % n
		out = append(out, at(k/api.Slots+1, k%api.Slots))
	}
	return out
}

func rising(l []api.Place) []api.Place {
	out := slices.Clone(l)
	slices.SortFunc(out, func(a, b api.Place) int { return a.Node*api.Slots + a.Slot - b.Node*api.Slots - b.Slot })
	return out
}

func TestP5_1OfTheZeroValue(t *testing.T) {
	b := newBoth(at(5, 5))
	b.check(t, "at first")
	for _, p := range b.asked {
		b.drop(t, p)
		b.move(t, p, p)
		b.move(t, p, at(5, 5))
		b.move(t, at(5, 5), p)
		b.put(t, at(6, 6), api.Cap{}, p)
	}
	b.put(t, at(5, 5), frame(), none)
}

func TestP5_1PutAtEachPlace(t *testing.T) {
	b := newBoth()
	for _, node := range nodes() {
		for _, slot := range slotNumbers() {
			b.put(t, at(node, slot), frame(), none)
			b.put(t, at(node, slot), rightCaps()[3], none)
		}
	}
	if n := len(b.table.All()); n != 4*4 {
		t.Error("of the edges may be", n)
	}
}

func TestP5_1PutAtTheEdges(t *testing.T) {
	for _, x := range []struct {
		p    api.Place
		want bool
	}{
		{at(0, 0), false}, {at(0, 1), false}, {at(1, 0), true}, {at(1, -1), false}, {at(1, 15), true}, {at(1, 16), false},
		{at(64, 0), true}, {at(64, -1), false}, {at(64, 15), true}, {at(64, 16), false}, {at(65, 0), false}, {at(65, 15), false}, {at(-1, 0), false},
	} {
		var y slots.Table
		if got := y.Put(x.p, frame(), none); got != x.want {
			t.Errorf("Put at %v: %v", x.p, got)
		}
		if c, is := y.Get(x.p); is != x.want || is && c != frame() || !is && c != (api.Cap{}) {
			t.Errorf("Get of %v: %v, %v", x.p, c, is)
		}
	}
}

func TestP5_1PutFillsAllPlaces(t *testing.T) {
	var x slots.Table
	for _, p := range scattered() {
		if !x.Put(p, frame(), none) {
			t.Fatal("Put", p)
		}
	}
	same(t, x.All(), rising(scattered()), "All")
	for _, p := range scattered() {
		if x.Put(p, frame(), none) || x.Move(at(1, 0), p) {
			t.Fatal("a second one at", p)
		}
	}
	if x.Put(at(65, 0), frame(), none) || x.Put(at(64, 16), frame(), none) || len(x.All()) != 1024 {
		t.Error("one more than all")
	}
}

func TestP5_1PutOfEachCapability(t *testing.T) {
	b := newBoth(at(5, 5))
	for i, c := range rightCaps() {
		b.put(t, at(3, i), c, none)
	}
	for _, c := range wrongCaps() {
		b.put(t, at(5, 5), c, none)
		b.put(t, at(5, 5), c, at(3, 1))
		b.put(t, at(3, 1), c, none)
	}
}

func TestP5_1PutBelowWhatHasNone(t *testing.T) {
	b := tree(t)
	for _, parent := range append(edges(), at(5, 5), at(6, 6), at(3, 2)) {
		b.put(t, at(5, 5), frame(), parent)
		b.drop(t, at(5, 5))
	}
	b.put(t, at(2, 3), frame(), at(2, 4))
	b.put(t, at(2, 3), frame(), at(2, 3))
}

func TestP5_1ATree(t *testing.T) {
	b := tree(t)
	for _, x := range []struct{ p, parent api.Place }{{at(2, 3), none}, {at(64, 0), at(2, 4)}, {at(1, 0), at(64, 15)}, {at(3, 0), none}, {at(5, 5), none}} {
		if got := b.table.Parent(x.p); got != x.parent {
			t.Errorf("Parent(%v): %v", x.p, got)
		}
	}
	if c, is := b.table.Get(at(1, 15)); !is || c != rightCaps()[2] {
		t.Error("Get", c, is)
	}
	if c, is := b.table.Get(at(5, 5)); is || c != (api.Cap{}) {
		t.Error("Get of none", c, is)
	}
}

func TestP5_1DropGivesToTheParent(t *testing.T) {
	b := tree(t)
	b.drop(t, at(2, 4))
	if b.table.Parent(at(64, 0)) != at(2, 3) || b.table.Parent(at(2, 0)) != at(2, 3) || b.table.Parent(at(1, 2)) != at(64, 0) {
		t.Error("behind the first", b.table.Children(at(2, 3)))
	}
	b.drop(t, at(2, 4))
	b.drop(t, at(2, 3))
	if b.table.Parent(at(64, 0)) != none || b.table.Parent(at(1, 15)) != none || b.table.Parent(at(1, 2)) != at(64, 0) {
		t.Error("behind the second", b.table.Below(at(64, 0)))
	}
	for _, p := range edges() {
		b.drop(t, p)
	}
}

func TestP5_1DropInEachOrder(t *testing.T) {
	size := len(tree(t).table.All())
	for step := 1; step < size; step += 2 {
		for first := range size {
			b := tree(t)
			l := b.table.All()
			for i := range l {
				b.drop(t, l[(first+i*step)%size])
			}
			for _, p := range l {
				b.drop(t, p)
			}
			same(t, b.table.All(), nil, "All, when all are dropped")
		}
	}
}

func TestP5_1DropInARowOfAnyLength(t *testing.T) {
	for _, n := range []int{2, 3, 4, 17, 200, api.MaxUnits * api.Slots} {
		for name, order := range dropOrders(n) {
			x, l := line(t, n)
			for _, i := range order {
				if !x.Drop(l[i]) {
					t.Fatal("Drop", i, "of a row of", n, name)
				}
			}
			same(t, x.All(), rising([]api.Place{l[0], l[n-1]}), "All of a row of", n, name)
			same(t, x.Below(l[0]), l[n-1:], "Below of a row of", n, name)
			if x.Parent(l[n-1]) != l[0] || !x.Drop(l[0]) || x.Parent(l[n-1]) != none {
				t.Fatal("the parent of the last of", n, name)
			}
		}
	}
}

// dropOrders are ways to go over a row of n but for its first and its last.
func dropOrders(n int) map[string][]int {
	var down, inward []int
	for i := 1; i < n-1; i++ {
		down = append(down, i)
	}
	up := slices.Clone(down)
	slices.Reverse(up)
	for i := range down {
		inward = append(inward, []int{down[i/2], up[i/2]}[i%2])
	}
	return map[string][]int{"down": down, "up": up, "inward": inward}
}

func TestP5_1ADroppedOnesChildrenAreNotItsAgain(t *testing.T) {
	b := tree(t)
	b.drop(t, at(2, 4))
	b.put(t, at(2, 4), frame(), at(1, 0))
	same(t, b.table.Children(at(2, 4)), nil, "Children of a place that was filled anew")
	b.move(t, at(64, 0), at(5, 5))
	b.put(t, at(64, 0), frame(), none)
	same(t, b.table.Children(at(64, 0)), nil, "Children of a place from which one was moved")
	same(t, b.table.Children(at(5, 5)), []api.Place{at(1, 2)}, "Children of where it went")
}

func TestP5_1MoveTakesThoseBelowAlong(t *testing.T) {
	b := tree(t)
	below := b.table.Below(at(2, 4))
	b.move(t, at(2, 4), at(5, 5))
	if b.table.Parent(at(5, 5)) != at(2, 3) || b.table.Parent(at(64, 0)) != at(5, 5) || b.table.Parent(at(2, 0)) != at(5, 5) {
		t.Error("parents", b.table.Children(at(5, 5)))
	}
	if c, is := b.table.Get(at(5, 5)); !is || c != rightCaps()[1] {
		t.Error("it has", c, is)
	}
	if c, is := b.table.Get(at(2, 4)); is || c != (api.Cap{}) || b.table.Parent(at(2, 4)) != none {
		t.Error("where it was is", c, is)
	}
	same(t, b.table.Below(at(5, 5)), below, "Below")
	b.move(t, at(5, 5), at(2, 4))
	b.move(t, at(2, 3), at(64, 1))
	b.move(t, at(64, 15), at(1, 1))
	b.move(t, at(30, 7), at(5, 5))
}

func TestP5_1MoveRefused(t *testing.T) {
	b := tree(t)
	for _, from := range append(b.table.All(), append(edges(), at(5, 5))...) {
		for _, to := range append(b.table.All(), none, at(0, 3), at(65, 0), at(5, -1), at(5, api.Slots), from) {
			b.move(t, from, to)
		}
	}
	if n := len(b.table.All()); n != 10 {
		t.Error("there are", n)
	}
}

func TestP5_1MoveToEachPlace(t *testing.T) {
	b := newBoth()
	b.put(t, at(1, 0), frame(), none)
	b.put(t, at(9, 9), frame(), at(1, 0))
	b.put(t, at(10, 1), frame(), at(9, 9))
	for _, node := range nodes() {
		for _, slot := range slotNumbers() {
			from := b.table.Children(at(1, 0))[0]
			b.move(t, from, at(node, slot))
		}
	}
}

func TestP5_1TablesAreApart(t *testing.T) {
	a, b := tree(t), newBoth(at(2, 3))
	b.check(t, "beside another one")
	b.put(t, at(2, 3), rightCaps()[5], none)
	a.check(t, "behind a Put into another one")
	b.drop(t, at(2, 3))
	a.check(t, "behind a Drop in another one")
}

// draw is a row of numbers that look like none, the same at each run.
type draw uint64

func (d *draw) below(n int) int {
	*d = *d*6364136223846793005 + 1442695040888963407
	return int(uint64(*d)>>33) % n
}

// pool are so few places that calls often meet one that has, is a parent, or was dropped.
func pool() []api.Place {
	return append(scattered()[:24], none, at(65, 1), at(3, -1), at(3, api.Slots))
}

func (d *draw) place(l []api.Place) api.Place {
	return l[d.below(len(l))]
}

// parent is mostly one that has one, as a tree would hardly grow otherwise.
func (d *draw) parent(b *both) api.Place {
	l := b.model.all()
	if len(l) == 0 || d.below(4) == 0 {
		return d.place(append(pool(), none, none, none, none))
	}
	return d.place(l)
}

func (d *draw) call(t *testing.T, b *both) {
	t.Helper()
	p, all := d.place(pool()), append(rightCaps(), wrongCaps()[:4]...)
	switch d.below(6) {
	case 0:
		b.drop(t, p)
	case 1, 2:
		b.move(t, p, d.place(pool()))
	default:
		b.put(t, p, all[d.below(len(all))], d.parent(b))
	}
}

func TestP5_1AnyCallsInAnyOrder(t *testing.T) {
	for seed := range 10 {
		d, b, most := draw(seed), newBoth(pool()...), 0
		for range 200 {
			d.call(t, b)
			most = max(most, len(b.table.All()))
		}
		if most < 12 {
			t.Error("the calls of", seed, "make too small a tree to tell anything:", most)
		}
	}
}

func TestP5_2ListsOfTheZeroValue(t *testing.T) {
	var x slots.Table
	for _, l := range [][]api.Place{x.All(), x.Children(none), x.Children(at(1, 0)), x.Below(none), x.Below(at(1, 0)), x.Named(frame()), x.Named(api.Cap{})} {
		if len(l) != 0 {
			t.Error(l)
		}
	}
}

func TestP5_2ListsOfATree(t *testing.T) {
	x := tree(t).table
	for _, y := range []struct {
		what string
		got  []api.Place
		want string
	}{
		{"All", x.All(), "[{1 0} {1 2} {1 15} {2 0} {2 3} {2 4} {3 0} {30 7} {64 0} {64 15}]"},
		{"Children", x.Children(at(2, 3)), "[{1 15} {2 4}]"},
		{"Children, one ahead of it", x.Children(at(2, 4)), "[{2 0} {64 0}]"},
		{"Below", x.Below(at(2, 3)), "[{1 0} {1 2} {1 15} {2 0} {2 4} {64 0} {64 15}]"},
		{"Below of a child", x.Below(at(64, 0)), "[{1 0} {1 2} {64 15}]"},
		{"Below of the other tree", x.Below(at(3, 0)), "[{30 7}]"},
		{"Below of one that has no child", x.Below(at(1, 0)), "[]"},
		{"Children of one that has none", x.Children(at(5, 5)), "[]"},
		{"Below of one that has none", x.Below(at(5, 5)), "[]"},
		{"Children of the zero Place", x.Children(none), "[]"},
		{"Below of the zero Place", x.Below(none), "[]"},
		{"Named, whatever rights", x.Named(frame()), "[{2 3} {2 4}]"},
		{"Named, whatever badge", x.Named(api.Cap{Kind: api.Endpoint, Obj: 9, Badge: 77}), "[{1 2} {64 0}]"},
		{"Named, whatever guard", x.Named(api.Cap{Kind: api.Node, Obj: 9, Size: 3}), "[{1 0} {2 0}]"},
		{"Named of one kind", x.Named(api.Cap{Kind: api.Notif, Obj: 9}), "[{64 15}]"},
		{"Named of an Untyped", x.Named(api.Cap{Kind: api.Untyped, Obj: 9, Size: 2}), "[{30 7}]"},
		{"Named of another Size", x.Named(api.Cap{Kind: api.Untyped, Obj: 9, Size: 3}), "[]"},
		{"Named of nothing", x.Named(api.Cap{}), "[]"},
		{"Named of another Obj", x.Named(api.Cap{Kind: api.Frame, Obj: 11}), "[]"},
	} {
		if got := fmt.Sprint(y.got); got != y.want {
			t.Errorf("%s: %s, not %s", y.what, got, y.want)
		}
	}
}

func TestP5_2BelowOfALongRow(t *testing.T) {
	x, l := line(t, api.MaxUnits*api.Slots)
	for _, i := range []int{0, 1, 2, 500, len(l) - 2, len(l) - 1} {
		same(t, x.Below(l[i]), rising(l[i+1:]), "Below", i)
		same(t, x.Children(l[i]), l[i+1:min(i+2, len(l))], "Children", i)
	}
	same(t, x.Below(none), nil, "Below of the zero Place")
}

func TestP5_2ChildrenOfOneThatHasAll(t *testing.T) {
	var x slots.Table
	l := scattered()
	for i, p := range l {
		parent := none
		if i > 0 {
			parent = l[0]
		}
		if !x.Put(p, frame(), parent) {
			t.Fatal("Put", p)
		}
	}
	want := rising(l[1:])
	same(t, x.Children(l[0]), want, "Children")
	same(t, x.Below(l[0]), want, "Below")
	if !x.Drop(l[0]) || len(x.Children(l[0])) != 0 || x.Parent(l[1]) != none || x.Parent(l[1023]) != none {
		t.Error("they have a parent that was dropped")
	}
	same(t, x.All(), want, "All")
	same(t, x.Named(frame()), want, "Named")
}

// TestP5_2TheSameAtEachRun asks often, as the order of a map is another one at each go.
func TestP5_2TheSameAtEachRun(t *testing.T) {
	for range 60 {
		tree(t)
	}
}

// lists are the calls that hand one out.
func lists(x *slots.Table) []func() []api.Place {
	return []func() []api.Place{
		x.All,
		func() []api.Place { return x.Children(at(2, 3)) },
		func() []api.Place { return x.Children(at(1, 0)) },
		func() []api.Place { return x.Below(at(2, 3)) },
		func() []api.Place { return x.Below(at(2, 4)) },
		func() []api.Place { return x.Below(at(1, 2)) },
		func() []api.Place { return x.Below(at(1, 0)) },
		func() []api.Place { return x.Named(frame()) },
		func() []api.Place { return x.Named(rightCaps()[9]) },
	}
}

// spoil writes all over a list and its spare room.
func spoil(l []api.Place) {
	l = l[:cap(l)]
	for i := range l {
		l[i] = at(-7, -7)
	}
}

func TestP5_2ListsAreNewMemory(t *testing.T) {
	b := tree(t)
	for i, first := range lists(b.table) {
		for j, second := range lists(b.table) {
			a, c := first(), second()
			want := append(slices.Clone(c), at(8, 8))
			c = append(c, at(8, 8))
			spoil(append(a, at(9, 9)))
			spoil(a)
			same(t, c, want, "list", j, "behind a write to list", i)
			b.check(t, "behind a write to a list")
		}
	}
}
