package look_test

import (
	"strings"
	"testing"

	"ringkern/api"
	"ringkern/look"
	"ringkern/slots"
)

func frame(obj int) api.Cap { return api.Cap{Kind: api.Frame, Obj: obj, Rights: 7} }

// ofKind is a right capability of each kind; of a Node it has a guard.
func ofKind(kind int) api.Cap {
	c := api.Cap{Kind: kind, Obj: 30 + kind, Rights: kind % 8}
	switch kind {
	case api.Untyped:
		c.Size = 3
	case api.Node:
		c.Size, c.Badge = 2, 1
	case api.Endpoint, api.Notif:
		c.Badge = 0x7fffffff
	}
	return c
}

// town has nodes with and without guards, one of each kind, two that stand in slots of their own, and a way of six nodes.
func town(t *testing.T) *world {
	t.Helper()
	w := newWorld()
	for _, x := range []struct {
		p api.Place
		c api.Cap
	}{
		{at(1, 1), node(1, "")}, {at(1, 2), node(2, "101")}, {at(1, 3), frame(9)}, {at(1, 4), node(2, "")}, {at(1, 5), node(3, "11111111")},
		{at(1, 6), node(7, "10")}, {at(1, 7), node(2, "000")}, {at(1, 15), node(64, "0")}, {at(1, 0), node(20, "")},
		{at(1, 9), api.Cap{Kind: api.Node, Obj: 2}},
		{at(2, 4), node(3, "00000000")}, {at(2, 0), frame(2)}, {at(2, 15), node(1, "1")},
		{at(3, 15), api.Cap{Kind: api.Notif, Obj: 8, Badge: 6}}, {at(3, 1), node(2, "0000001")},
		{at(7, 6), node(7, "10")}, {at(7, 7), node(7, "")}, {at(64, 15), node(64, "1111")}, {at(64, 14), frame(64)},
		{at(10, 9), node(11, "")}, {at(11, 8), node(12, "")}, {at(12, 7), node(13, "")}, {at(13, 6), node(14, "")}, {at(14, 5), node(15, "")},
		{at(15, 4), node(16, "")}, {at(15, 3), frame(3)}, {at(16, 0), frame(4)},
	} {
		w.put(t, x.p, x.c, none)
	}
	for kind := api.Untyped; kind <= api.Ring; kind++ {
		w.put(t, at(20, kind), ofKind(kind), at(1, 1))
	}
	return w
}

// roots are such as lead somewhere in the town, whether or not they stand in it, and such as don't.
func roots() []api.Cap {
	out := []api.Cap{node(1, ""), node(1, "1"), node(2, "101"), node(2, "0"), node(3, "00000000"), node(3, "11111111"), node(7, "10"), node(7, ""),
		node(10, ""), node(20, ""), node(20, "01"), node(64, ""), node(64, "1111"), node(50, "011"),
		{Kind: api.Node, Obj: 1}, {Kind: api.Node, Obj: 2, Size: 3, Badge: 5, Rights: 1}}
	return append(out, wrongRoots()...)
}

// wrongRoots are such as are no Node, or can't be one.
func wrongRoots() []api.Cap {
	out := []api.Cap{{}, {Obj: 1}, {Kind: api.Node}, {Kind: api.Node, Obj: api.MaxUnits + 1}, {Kind: api.Node, Obj: 1, Size: 9}, {Kind: api.Node, Obj: 1, Size: 20},
		{Kind: api.Node, Obj: 1, Badge: 1}, {Kind: api.Node, Obj: 1, Size: 3, Badge: 8}, {Kind: api.Node, Obj: 1, Size: 8, Badge: 256}, {Kind: api.Node, Obj: 1, Rights: 8}}
	for kind := -1; kind <= api.Ring+1; kind++ {
		if kind != api.Node {
			out = append(out, api.Cap{Kind: kind, Obj: 1, Rights: 7}, ofKind(kind))
		}
	}
	for _, n := range far() {
		out = append(out, api.Cap{Kind: n, Obj: 1}, api.Cap{Kind: api.Node, Obj: n}, api.Cap{Kind: api.Node, Obj: 1, Size: n},
			api.Cap{Kind: api.Node, Obj: 1, Size: 4, Badge: n}, api.Cap{Kind: api.Node, Obj: 1, Rights: n})
	}
	return out
}

func TestP6_1FindExamples(t *testing.T) {
	w, root := town(t), node(1, "")
	for _, x := range []struct {
		name, value string
		root        api.Cap
		want        found
	}{
		{"a slot where something stands", "0011", root, found{at(1, 3), 0}},
		{"a slot where a node stands, and no bits are left", "0010", root, found{at(1, 2), 0}},
		{"an empty slot", "1000", root, found{at(1, 8), 0}},
		{"the first slot", "0000", root, found{at(1, 0), 0}},
		{"the last slot", "1111", root, found{at(1, 15), 0}},
		{"two nodes", "0100 0000", root, found{at(2, 0), 0}},
		{"two nodes, an empty slot at the end", "0100 0101", root, found{at(2, 5), 0}},
		{"two nodes, the second with a guard", "0010 101 0100", root, found{at(2, 4), 0}},
		{"a guard of zeros", "0111 000 0100", root, found{at(2, 4), 0}},
		{"a guard of eight bits", "0101 11111111 1111", root, found{at(3, 15), 0}},
		{"three nodes, two of them with guards", "0010 101 0100 00000000 1111", root, found{at(3, 15), 0}},
		{"a root with a guard", "101 1001", node(2, "101"), found{at(2, 9), 0}},
		{"a root with a guard, and a node with another", "101 0100 00000000 0001", node(2, "101"), found{at(3, 1), 0}},
		{"a root without rights", "0100 0000", api.Cap{Kind: api.Node, Obj: 1}, found{at(2, 0), 0}},
		{"a node without rights on the way", "1001 0000", root, found{at(2, 0), 0}},
		{"the last unit", "1111 0 1110", root, found{at(64, 14), 0}},
		{"a root of which nothing stands anywhere", "0110", node(50, ""), found{at(50, 6), 0}},
		{"another guard", "0010 100 0100", root, found{none, api.ELook}},
		{"another guard of eight bits", "0101 11111110 1111", root, found{none, api.ELook}},
		{"another guard of a root", "001 1001", node(2, "101"), found{none, api.ELook}},
		{"a guard behind the slot", "0010 0100 101", root, found{none, api.ELook}},
		{"no bits for the guard", "0010 0100", root, found{none, api.ELook}},
		{"a bit left", "0100 0", root, found{none, api.ELook}},
		{"three bits left", "0100 000", root, found{none, api.ELook}},
		{"a guard and three bits", "0010 101 010", root, found{none, api.ELook}},
		{"a guard and nothing more", "0010 101", root, found{none, api.ELook}},
		{"a bit too many at the end", "0010 101 0100 0", root, found{none, api.ELook}},
		{"an empty slot on the way", "1000 0000", root, found{none, api.ELook}},
		{"an empty slot behind a node", "0100 0101 0000", root, found{none, api.ELook}},
		{"a frame on the way", "0011 0101", root, found{none, api.ELook}},
		{"a frame behind a node", "0100 0000 0101", root, found{none, api.ELook}},
		{"a notification on the way", "0101 11111111 1111 0000", root, found{none, api.ELook}},
		{"a root that is no node", "0011", frame(1), found{none, api.ELook}},
		{"no root", "0011", api.Cap{}, found{none, api.ELook}},
	} {
		if f := w.find(x.root, address(x.value)); f != x.want {
			t.Errorf("%s: %+v, not %+v", x.name, f, x.want)
		}
		w.check(t, x.root, address(x.value), allKinds()...)
	}
}

func TestP6_1FindOnAWayOfMaxNodes(t *testing.T) {
	w, root := town(t), node(10, "")
	value := "1001 1000 0111 0110 0101 0100"
	for i, slot := range []int{9, 8, 7, 6, 5, 4} {
		if f := w.find(root, address(value[:5*i+4])); f != (found{at(10+i, slot), api.Fine}) {
			t.Errorf("a way of %d nodes: %+v", i+1, f)
		}
	}
	if n := strings.Count(value, " ") + 1; n != api.MaxNodes {
		t.Error("the longest way is of", n)
	}
	if g := w.cap(root, address(value), api.Node); g != (got{node(16, ""), at(15, 4), api.Fine}) {
		t.Errorf("Cap at its end: %+v", g)
	}
	if g := w.cap(root, address("1001 1000 0111 0110 0101 0011"), api.Frame); g != (got{frame(3), at(15, 3), api.Fine}) {
		t.Errorf("Cap of a frame at its end: %+v", g)
	}
	if f := w.find(root, address("1001 1000 0111 0110 0101 1111")); f != (found{at(15, 15), api.Fine}) {
		t.Errorf("an empty slot at its end: %+v", f)
	}
	if f := w.find(root, address("1001 1000 0111 0110 0100 0100")); f != (found{none, api.ELook}) {
		t.Errorf("an empty slot ahead of its end: %+v", f)
	}
	// One more node would be asked for by an address that can't be.
	if f := w.find(root, address("0100 0000")&^0xff|28); f != (found{none, api.ELook}) {
		t.Errorf("28 bits: %+v", f)
	}
}

func TestP6_1FindInANodeThatStandsInASlotOfItsOwn(t *testing.T) {
	w := town(t)
	for n := range api.MaxNodes {
		round := strings.Repeat("0001", n)
		for _, x := range []struct {
			end  string
			want api.Place
		}{{"0001", at(1, 1)}, {"0011", at(1, 3)}, {"1000", at(1, 8)}} {
			if f := w.find(node(1, ""), address(round+x.end)); f != (found{x.want, api.Fine}) {
				t.Errorf("%d times round, then %s: %+v", n, x.end, f)
			}
		}
	}
	for n := range 4 {
		round := strings.Repeat("10 0110", n)
		if f := w.find(node(7, "10"), address(round+"10 1111")); f != (found{at(7, 15), api.Fine}) {
			t.Errorf("%d times round by a guard: %+v", n, f)
		}
		if f := w.find(node(7, "10"), address(round+"11 1111")); f != (found{none, api.ELook}) {
			t.Errorf("%d times round, then another guard: %+v", n, f)
		}
	}
	// In one node by two capabilities: each asks for its own guard.
	if f := w.find(node(7, ""), address("0110 10 0111 0111 0101")); f != (found{at(7, 5), api.Fine}) {
		t.Errorf("with a guard, then without: %+v", f)
	}
}

func TestP6_1FindByAGuardOfAllBitsButFour(t *testing.T) {
	w := town(t)
	for size := range 9 {
		for _, guard := range []int{0, 1, 1<<size - 1, 1 << size / 2, 0xa5 & (1<<size - 1)} {
			g := ""
			if size > 0 {
				g = digits(guard&(1<<size-1), size)
			}
			for slot := range api.Slots {
				a := address(g + digits(slot, 4))
				if f := w.find(node(40, g), a); f != (found{at(40, slot), api.Fine}) {
					t.Fatalf("guard %q, slot %d: %+v", g, slot, f)
				}
				for bit := range size {
					w.check(t, node(40, g), a^1<<(8+4+bit), 0)
				}
				w.check(t, node(40, g), address((g + digits(slot, 4))[1:]), 0)
			}
		}
	}
	if f := w.find(node(2, "101"), address("101 0100 00000000 1111")); f != (found{at(3, 15), api.Fine}) {
		t.Errorf("the last node's: %+v", f)
	}
}

// The whole of each short address, so that no bit of it is without weight.
func TestP6_1EachShortAddressFromEachRoot(t *testing.T) {
	w := town(t)
	w.unchanged(t, func() {
		for _, root := range roots() {
			for depth := range 13 {
				for value := range 1<<depth + 2 {
					w.check(t, root, uint32(value<<8|depth), 0, api.Node)
				}
			}
		}
	})
}

func TestP6_1EachDepth(t *testing.T) {
	w := town(t)
	w.unchanged(t, func() {
		for _, root := range roots() {
			for depth := range uint32(256) {
				for _, value := range []uint32{0, 1, 3, 5, 7, 8, 15, 16, 0x11, 0x40, 0x54, 0x111, 0x1111, 0x11111, 0x111111, 0x111113, 0x111118, 0x987654, 0xffffff} {
					a := value<<8 | depth
					if f := w.check(t, root, a, 0, api.Frame); f.code != api.Fine && f != (found{none, api.ELook}) {
						t.Fatalf("Find(%+v, %#x): %+v", root, a, f)
					}
				}
			}
		}
	})
}

func TestP6_1WrongAddresses(t *testing.T) {
	w := town(t)
	w.unchanged(t, func() {
		for _, a := range []uint32{0, 1, 2, 3, 0x100, 0x103, 0x303, 0x1004, 0x1304, 0x11304, 0x80000004, 0xffffff04, 0x2005, 0x10008, 0x80000017, 0xffffff17,
			0x19, 0x11111119, 0x1111131c, 0x20, 0x40, 0x84, 0x304 + 0x20, 0x304 + 0x80, 0xff, 0xffffffff} {
			for _, root := range roots() {
				if f := w.find(root, a); f != (found{none, api.ELook}) {
					t.Errorf("Find(%+v, %#x): %+v", root, a, f)
				}
				for _, kind := range allKinds() {
					if g := w.cap(root, a, kind); g != (got{api.Cap{}, none, api.ELook}) {
						t.Errorf("Cap(%+v, %#x, %d): %+v", root, a, kind, g)
					}
				}
			}
		}
	})
}

func TestP6_1WrongRoots(t *testing.T) {
	w := town(t)
	w.unchanged(t, func() {
		for _, root := range wrongRoots() {
			for _, value := range []string{"0011", "1000", "0001 0011", "0100 0000", "0000 0011", "1 0011", "000 0011", "0000 00011", "00000000 0011", "00000000 0011 0000", strings.Repeat("0001", 6)} {
				if f := w.find(root, address(value)); f != (found{none, api.ELook}) {
					t.Errorf("Find(%+v, %s): %+v", root, value, f)
				}
				for _, kind := range allKinds() {
					if g := w.cap(root, address(value), kind); g != (got{api.Cap{}, none, api.ELook}) {
						t.Errorf("Cap(%+v, %s, %d): %+v", root, value, kind, g)
					}
				}
			}
		}
	})
}

func TestP6_1CapExamples(t *testing.T) {
	w, root := town(t), node(1, "")
	for _, x := range []struct {
		name, value string
		kind        int
		want        got
	}{
		{"the kind that stands there", "0011", api.Frame, got{frame(9), at(1, 3), 0}},
		{"any kind", "0011", 0, got{frame(9), at(1, 3), 0}},
		{"another kind", "0011", api.Node, got{api.Cap{}, none, api.EKind}},
		{"a kind that is none", "0011", api.Ring + 1, got{api.Cap{}, none, api.EKind}},
		{"a kind below 0", "0011", -1, got{api.Cap{}, none, api.EKind}},
		{"nothing there", "1000", api.Frame, got{api.Cap{}, none, api.EEmpty}},
		{"nothing there, any kind", "1000", 0, got{api.Cap{}, none, api.EEmpty}},
		{"nothing there, a kind that is none", "1000", api.Ring + 1, got{api.Cap{}, none, api.EEmpty}},
		{"a node, as it stands there", "0010", api.Node, got{node(2, "101"), at(1, 2), 0}},
		{"the root itself, by its own slot", "0001 0001", api.Node, got{root, at(1, 1), 0}},
		{"two nodes", "0010 101 0000", api.Frame, got{frame(2), at(2, 0), 0}},
		{"three nodes", "0010 101 0100 00000000 1111", api.Notif, got{api.Cap{Kind: api.Notif, Obj: 8, Badge: 6}, at(3, 15), 0}},
		{"three nodes, another kind", "0010 101 0100 00000000 1111", api.Endpoint, got{api.Cap{}, none, api.EKind}},
		{"three nodes, nothing there", "0010 101 0100 00000000 1110", api.Notif, got{api.Cap{}, none, api.EEmpty}},
		{"three nodes, another guard", "0010 101 0100 00000001 1111", api.Notif, got{api.Cap{}, none, api.ELook}},
		{"no way, a kind that is none", "0011 0011", api.Ring + 1, got{api.Cap{}, none, api.ELook}},
		{"no address", "011", api.Frame, got{api.Cap{}, none, api.ELook}},
	} {
		if g := w.cap(root, address(x.value), x.kind); g != x.want {
			t.Errorf("%s: %+v, not %+v", x.name, g, x.want)
		}
	}
}

func TestP6_1CapOfEachKindByEachKind(t *testing.T) {
	w := town(t)
	w.unchanged(t, func() {
		for stands := api.Untyped; stands <= api.Ring; stands++ {
			for _, kind := range allKinds() {
				want := got{api.Cap{}, none, api.EKind}
				if kind == 0 || kind == stands {
					want = got{ofKind(stands), at(20, stands), api.Fine}
				}
				if g := w.cap(node(20, ""), address(digits(stands, 4)), kind); g != want {
					t.Errorf("kind %d, where %d stands: %+v", kind, stands, g)
				}
				if g := w.cap(node(1, ""), address("0000"+digits(stands, 4)), kind); g != want {
					t.Errorf("kind %d, where %d stands, by two nodes: %+v", kind, stands, g)
				}
			}
		}
		for _, kind := range allKinds() {
			if g := w.cap(node(20, ""), address("1111"), kind); g != (got{api.Cap{}, none, api.EEmpty}) {
				t.Errorf("kind %d, where nothing stands: %+v", kind, g)
			}
		}
	})
}

// Of all that stands in a slot, a Node alone leads on.
func TestP6_1FindThroughEachKind(t *testing.T) {
	w := town(t)
	for kind := api.Untyped; kind <= api.Ring; kind++ {
		for _, end := range []string{"0000", "01 0000", "01 1111", "00000000 0000", "000 0000"} {
			want := found{none, api.ELook}
			if guard, slot, _ := strings.Cut(end, " "); kind == api.Node && guard == "01" {
				want = found{at(32, number(slot)), api.Fine}
			}
			if f := w.find(node(20, ""), address(digits(kind, 4)+end)); f != want {
				t.Errorf("through kind %d, then %s: %+v", kind, end, f)
			}
		}
	}
}

func TestP6_1InTheZeroTable(t *testing.T) {
	w := newWorld()
	w.unchanged(t, func() {
		for slot := range api.Slots {
			a := address(digits(slot, 4))
			if f := w.find(node(64, ""), a); f != (found{at(64, slot), api.Fine}) {
				t.Errorf("slot %d: %+v", slot, f)
			}
			if g := w.cap(node(64, ""), a, 0); g != (got{api.Cap{}, none, api.EEmpty}) {
				t.Errorf("slot %d: %+v", slot, g)
			}
			if f := w.find(node(64, ""), address(digits(slot, 4)+"0000")); f != (found{none, api.ELook}) {
				t.Errorf("behind slot %d: %+v", slot, f)
			}
		}
	})
}

// What was done to the table is seen, that of another table is not.
func TestP6_1AnswersGoWithTheTable(t *testing.T) {
	w, other, root := town(t), town(t), node(1, "")
	a := address("0010 101 0000")
	ask := func(want got) {
		t.Helper()
		for range 2 {
			if g := w.cap(root, a, 0); g != want {
				t.Errorf("Cap: %+v, not %+v", g, want)
			}
			if g := other.cap(root, a, 0); g != (got{frame(2), at(2, 0), api.Fine}) {
				t.Errorf("Cap in the other one: %+v", g)
			}
		}
	}
	steps := func(table *slots.Table) []func() bool {
		return []func() bool{
			func() bool { return table.Drop(at(2, 0)) },
			func() bool { return table.Put(at(2, 0), frame(33), none) },
			func() bool { return table.Move(at(1, 2), at(1, 8)) },
			func() bool { return table.Move(at(1, 8), at(1, 2)) },
			func() bool { return table.Drop(at(1, 2)) },
			func() bool { return table.Put(at(1, 2), node(5, "101"), none) },
			func() bool { return table.Move(at(2, 0), at(5, 0)) },
		}
	}
	wants := []got{{code: api.EEmpty}, {frame(33), at(2, 0), 0}, {code: api.ELook}, {frame(33), at(2, 0), 0}, {code: api.ELook}, {code: api.EEmpty}, {frame(33), at(5, 0), 0}}
	ask(got{frame(2), at(2, 0), 0})
	for i, step := range steps(w.table) {
		if !step() {
			t.Fatal("step", i)
		}
		ask(wants[i])
	}
}

// Each answer, of each code, leaves the table as it was.
func TestP6_1NothingOfTheTableIsChanged(t *testing.T) {
	w := town(t)
	for _, root := range []api.Cap{node(1, ""), node(2, "101"), node(50, ""), frame(1), {}} {
		for _, value := range []string{"0011", "1000", "0010", "0001 0001", "0010 101 0100", "0010 100 0100", "101 0100", "1000 0000", "0011 0000", "011"} {
			w.unchanged(t, func() { look.Find(w.table, root, address(value)) })
			for _, kind := range []int{0, api.Node, api.Frame, -1} {
				w.unchanged(t, func() { look.Cap(w.table, root, address(value), kind) })
			}
		}
	}
}
