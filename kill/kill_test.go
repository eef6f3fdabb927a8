package kill_test

import (
	"fmt"
	"slices"
	"testing"

	"ringkern/api"
	"ringkern/kill"
	"ringkern/slots"
)

// expect holds what a call told against what the chapter asks, written out: the model beside it could be wrong too.
func expect(t *testing.T, what string, got answer, want string) {
	t.Helper()
	if got.String() != want {
		t.Errorf("%s: %v, not %s", what, got, want)
	}
}

// stays holds the places that have one, and their parents, against what is written out.
func (w *world) stays(t *testing.T, want string) {
	t.Helper()
	var parents []api.Place
	for _, p := range w.table.All() {
		parents = append(parents, w.table.Parent(p))
	}
	if got := fmt.Sprint(w.table.All(), parents); got != want {
		t.Errorf("there are %s, not %s", got, want)
	}
}

// tree has copies and copies of copies, in nodes of which one stands in the other, and parents behind and ahead of their children in the order of places.
func tree(t *testing.T) *world {
	t.Helper()
	return newWorld(t,
		line{at(1, 0), node(1), none}, line{at(1, 1), untyped(10, 20), none},
		line{at(1, 2), node(2), at(1, 1)}, line{at(1, 3), node(3), at(1, 1)}, line{at(2, 0), api.Cap{Kind: api.Node, Obj: 3, Size: 2, Badge: 1, Rights: 3}, at(1, 3)},
		line{at(3, 4), frame(12), at(1, 1)}, line{at(2, 9), api.Cap{Kind: api.Frame, Obj: 12, Rights: 1}, at(3, 4)}, line{at(1, 9), frame(12), at(2, 9)},
		line{at(2, 3), untyped(14, 4), at(1, 1)}, line{at(3, 0), api.Cap{Kind: api.Endpoint, Obj: 14, Rights: 7}, at(2, 3)},
		line{at(64, 15), api.Cap{Kind: api.Endpoint, Obj: 14, Badge: 9, Rights: 2}, at(3, 0)}, line{at(3, 15), node(4), at(1, 1)},
		line{at(4, 7), api.Cap{Kind: api.Notif, Obj: 15, Rights: 7}, at(1, 1)}, line{at(4, 1), api.Cap{Kind: api.Reply, Obj: 16, Rights: 7}, none},
		line{at(30, 0), ofKind(api.Thread, 30), none}, line{at(30, 1), ofKind(api.Thread, 30), at(30, 0)})
}

func TestP8_1DeleteOfTheZeroTable(t *testing.T) {
	w := newWorld(t)
	for _, p := range append(cantBe(), allPlaces()...) {
		expect(t, fmt.Sprint(p), w.delete(t, p), "[] 4")
	}
}

func TestP8_1DeleteWhereNothingIs(t *testing.T) {
	w := tree(t)
	for _, p := range append(cantBe(), at(1, 4), at(5, 5), at(64, 14), at(2, 1)) {
		expect(t, fmt.Sprint(p), w.delete(t, p), "[] 4")
	}
	w.delete(t, at(1, 9))
	expect(t, "a second time", w.delete(t, at(1, 9)), "[] 4")
}

func TestP8_1DeleteOfEachKind(t *testing.T) {
	for kind := api.Untyped; kind <= api.Ring; kind++ {
		for _, unit := range []int{1, 2, 33, 64} {
			w := newWorld(t, line{at(2, 3), ofKind(kind, unit), none}, line{at(2, 4), ofKind(kind, unit), at(2, 3)}, line{at(64, 15), ofKind(kind, unit), none})
			expect(t, "one of three", w.delete(t, at(2, 4)), "[] 0")
			expect(t, "one of two", w.delete(t, at(2, 3)), "[] 0")
			expect(t, "the last one", w.delete(t, at(64, 15)), fmt.Sprintf("[{%d %d}] 0", kind, unit))
			w.stays(t, "[] []")
		}
	}
}

// One Obj of two kinds is two objects.
func TestP8_1DeleteOfOneUnitInEachKind(t *testing.T) {
	w := newWorld(t)
	for kind := api.Untyped; kind <= api.Ring; kind++ {
		w.put(t, at(7, kind), ofKind(kind, 9), none)
	}
	for _, kind := range []int{5, 1, 9, 3, 2, 8, 4, 7, 6} {
		expect(t, "kind", w.delete(t, at(7, kind)), fmt.Sprintf("[{%d 9}] 0", kind))
	}
}

// Capabilities that differ in what they may do, but name one object.
func TestP8_1DeleteOfWhatIsNamedTwice(t *testing.T) {
	for _, x := range []struct {
		a, b api.Cap
		gone string
	}{
		{frame(9), api.Cap{Kind: api.Frame, Obj: 9}, "[{3 9}] 0"},
		{untyped(9, 3), api.Cap{Kind: api.Untyped, Obj: 9, Size: 3, Rights: 1}, "[{1 9}] 0"},
		{ofKind(api.Endpoint, 9), api.Cap{Kind: api.Endpoint, Obj: 9, Badge: 77, Rights: 7}, "[{4 9}] 0"},
		{api.Cap{Kind: api.Endpoint, Obj: 9, Badge: 1}, api.Cap{Kind: api.Endpoint, Obj: 9, Badge: 1<<31 - 1, Rights: 2}, "[{4 9}] 0"},
		{ofKind(api.Notif, 9), api.Cap{Kind: api.Notif, Obj: 9, Badge: 1, Rights: 4}, "[{5 9}] 0"},
		{node(9), api.Cap{Kind: api.Node, Obj: 9, Size: 8, Badge: 255, Rights: 7}, "[{2 9}] 0"},
		{api.Cap{Kind: api.Node, Obj: 9, Size: 1}, api.Cap{Kind: api.Node, Obj: 9, Size: 1, Badge: 1, Rights: 5}, "[{2 9}] 0"},
	} {
		for _, parent := range []api.Place{none, at(1, 1)} {
			for _, order := range [][]api.Place{{at(1, 1), at(1, 2)}, {at(1, 2), at(1, 1)}} {
				w := newWorld(t, line{at(1, 1), x.a, none}, line{at(1, 2), x.b, parent})
				expect(t, fmt.Sprint(x, order, "first"), w.delete(t, order[0]), "[] 0")
				expect(t, fmt.Sprint(x, order, "second"), w.delete(t, order[1]), x.gone)
			}
		}
	}
}

// Untypeds of one first unit and other sizes are other objects, told alike.
func TestP8_1DeleteOfUntypedsOfOneUnit(t *testing.T) {
	lines := []line{{at(1, 0), untyped(8, 4), none}, {at(1, 1), untyped(8, 2), at(1, 0)}, {at(1, 2), untyped(8, 4), at(1, 0)}, {at(1, 3), frame(8), at(1, 1)}}
	w := newWorld(t, lines...)
	expect(t, "the smaller", w.delete(t, at(1, 1)), "[{1 8}] 0")
	expect(t, "one of the greater", w.delete(t, at(1, 0)), "[] 0")
	expect(t, "the other one", w.delete(t, at(1, 2)), "[{1 8}] 0")
	w.stays(t, "[{1 3}] [{0 0}]")

	w = newWorld(t, append(lines, line{at(5, 0), untyped(8, 4), none}, line{at(5, 1), untyped(8, 3), none}, line{at(5, 2), untyped(8, 4), none}, line{at(2, 0), node(5), none})...)
	expect(t, "one in no slot of a node that goes", w.delete(t, at(1, 0)), "[] 0")
	expect(t, "another one", w.delete(t, at(1, 2)), "[] 0")
	expect(t, "the node with the last", w.delete(t, at(2, 0)), "[{2 5} {1 8} {1 8}] 0")
}

// What was below a deleted one stays, and has its parent.
func TestP8_1DeleteLeavesWhatIsBelow(t *testing.T) {
	w := newWorld(t, line{at(9, 0), untyped(10, 8), none}, line{at(9, 1), untyped(11, 4), at(9, 0)}, line{at(9, 2), frame(11), at(9, 1)}, line{at(1, 3), frame(12), at(9, 1)}, line{at(9, 4), frame(12), at(1, 3)})
	expect(t, "in the middle", w.delete(t, at(9, 1)), "[{1 11}] 0")
	w.stays(t, "[{1 3} {9 0} {9 2} {9 4}] [{9 0} {0 0} {9 0} {1 3}]")
	expect(t, "above all", w.delete(t, at(9, 0)), "[{1 10}] 0")
	w.stays(t, "[{1 3} {9 2} {9 4}] [{0 0} {0 0} {1 3}]")
}

func TestP8_1DeleteOfANodeWithNothingInIt(t *testing.T) {
	w := newWorld(t, line{at(1, 0), node(2), none}, line{at(2, 15), frame(5), none}, line{at(3, 0), frame(6), none}, line{at(1, 15), frame(7), none}, line{at(4, 0), node(64), at(1, 0)})
	w.delete(t, at(2, 15))
	expect(t, "the node 2", w.delete(t, at(1, 0)), "[{2 2}] 0")
	expect(t, "the node 64", w.delete(t, at(4, 0)), "[{2 64}] 0")
	w.stays(t, "[{1 15} {3 0}] [{0 0} {0 0}]")
}

func TestP8_1DeleteOfANodeThatIsFull(t *testing.T) {
	for _, unit := range []int{1, 2, 63, 64} {
		w, want := newWorld(t, line{at(33, 3), node(unit), none}), fmt.Sprintf("{2 %d}", unit)
		for slot := 15; slot >= 0; slot-- {
			w.put(t, at(unit, slot), frame(60-slot), at(33, 3))
		}
		for slot := range 16 {
			want += fmt.Sprintf(" {3 %d}", 60-slot)
		}
		for _, p := range []api.Place{at(3, 0), at(3, 15), at(62, 0), at(62, 15), at(33, 0), at(33, 15)} {
			w.put(t, p, ofKind(api.Ring, p.Node), at(unit, 4))
		}
		expect(t, "the node", w.delete(t, at(33, 3)), "["+want+"] 0")
		w.stays(t, "[{3 0} {3 15} {33 0} {33 15} {62 0} {62 15}] [{0 0} {0 0} {0 0} {0 0} {0 0} {0 0}]")
	}
}

// A node that is still named keeps what its slots have.
func TestP8_1DeleteOfANodeThatIsNamedElsewhere(t *testing.T) {
	w := newWorld(t, line{at(1, 0), node(2), none}, line{at(1, 1), api.Cap{Kind: api.Node, Obj: 2, Size: 3, Badge: 5}, at(1, 0)}, line{at(2, 0), frame(5), at(1, 0)}, line{at(2, 1), frame(6), at(1, 1)})
	expect(t, "the first", w.delete(t, at(1, 0)), "[] 0")
	w.stays(t, "[{1 1} {2 0} {2 1}] [{0 0} {0 0} {1 1}]")
	expect(t, "the last", w.delete(t, at(1, 1)), "[{2 2} {3 5} {3 6}] 0")
	w.stays(t, "[] []")
}

// Objects that are no nodes have no slots, though a node of that unit may have been there.
func TestP8_1DeleteOfWhatIsNoNodeLeavesTheSlotsOfItsUnit(t *testing.T) {
	for kind := api.Untyped; kind <= api.Ring; kind++ {
		if kind == api.Node {
			continue
		}
		w := newWorld(t, line{at(1, 0), ofKind(kind, 2), none}, line{at(2, 0), frame(5), none}, line{at(2, 7), node(6), at(1, 0)})
		expect(t, "kind", w.delete(t, at(1, 0)), fmt.Sprintf("[{%d 2}] 0", kind))
		w.stays(t, "[{2 0} {2 7}] [{0 0} {0 0}]")
	}
}

// What a slot has is deleted, with all that goes with it, ahead of the next slot.
func TestP8_1DeleteGoesDownAheadOfTheNextSlot(t *testing.T) {
	w := newWorld(t, line{at(1, 0), node(9), none},
		line{at(9, 1), node(8), none}, line{at(9, 2), frame(20), none}, line{at(9, 3), node(3), none}, line{at(9, 15), frame(21), none},
		line{at(8, 0), frame(22), none}, line{at(8, 5), node(7), none}, line{at(8, 6), frame(23), none}, line{at(7, 15), frame(24), none},
		line{at(3, 3), frame(25), none}, line{at(3, 2), frame(26), none})
	expect(t, "the outermost", w.delete(t, at(1, 0)), "[{2 9} {2 8} {3 22} {2 7} {3 24} {3 23} {3 20} {2 3} {3 26} {3 25} {3 21}] 0")
	w.stays(t, "[] []")
}

// An object that several slots of nodes name goes with the last of them.
func TestP8_1DeleteOfWhatSeveralSlotsName(t *testing.T) {
	w := newWorld(t, line{at(1, 0), node(9), none},
		line{at(9, 0), frame(20), none}, line{at(9, 1), node(8), none}, line{at(9, 2), frame(20), none}, line{at(9, 3), frame(21), none}, line{at(9, 4), node(7), none},
		line{at(8, 0), frame(20), at(9, 0)}, line{at(8, 1), node(7), none}, line{at(8, 2), frame(21), none}, line{at(8, 3), frame(22), none},
		line{at(7, 0), frame(22), none}, line{at(7, 1), frame(23), none}, line{at(40, 0), frame(23), at(7, 1)})
	expect(t, "the outermost", w.delete(t, at(1, 0)), "[{2 9} {2 8} {3 20} {3 21} {2 7} {3 22}] 0")
	w.stays(t, "[{40 0}] [{0 0}]")
}

func TestP8_1DeleteOfANodeThatStandsInItself(t *testing.T) {
	lines := []line{{at(1, 0), node(2), none}, {at(2, 4), node(2), at(1, 0)}, {at(2, 0), frame(5), none}, {at(2, 9), frame(6), at(2, 4)}}
	w := newWorld(t, lines...)
	expect(t, "from outside", w.delete(t, at(1, 0)), "[] 0")
	w.stays(t, "[{2 0} {2 4} {2 9}] [{0 0} {0 0} {2 4}]")
	expect(t, "from within", w.delete(t, at(2, 4)), "[{2 2} {3 5} {3 6}] 0")
	w.stays(t, "[] []")

	w = newWorld(t, lines...)
	expect(t, "from within, at first", w.delete(t, at(2, 4)), "[] 0")
	w.stays(t, "[{1 0} {2 0} {2 9}] [{0 0} {0 0} {1 0}]")
	expect(t, "from outside, then", w.delete(t, at(1, 0)), "[{2 2} {3 5} {3 6}] 0")

	w = newWorld(t)
	for slot := range 16 {
		w.put(t, at(2, slot), node(2), none)
	}
	for slot := range 15 {
		expect(t, "one of several in itself", w.delete(t, at(2, slot)), "[] 0")
	}
	expect(t, "the last in itself", w.delete(t, at(2, 15)), "[{2 2}] 0")
}

func TestP8_1DeleteOfNodesEachInTheOther(t *testing.T) {
	lines := []line{{at(2, 3), node(3), none}, {at(3, 0), node(2), at(2, 3)}, {at(2, 0), frame(5), none}, {at(2, 4), frame(6), none}, {at(3, 1), frame(7), none}, {at(3, 15), frame(5), none}}
	w := newWorld(t, lines...)
	expect(t, "the one", w.delete(t, at(2, 3)), "[{2 3} {2 2} {3 6} {3 7} {3 5}] 0")
	w.stays(t, "[] []")
	w = newWorld(t, lines...)
	expect(t, "the other one", w.delete(t, at(3, 0)), "[{2 2} {2 3} {3 7} {3 5} {3 6}] 0")
	w.stays(t, "[] []")
	w = newWorld(t, append(lines, line{at(1, 1), node(3), none})...)
	expect(t, "one that is held from outside", w.delete(t, at(2, 3)), "[] 0")
	expect(t, "the other one, then", w.delete(t, at(3, 0)), "[{2 2} {3 6}] 0")
	expect(t, "what held it", w.delete(t, at(1, 1)), "[{2 3} {3 7} {3 5}] 0")
}

// round has each node in the one before it, the first in the last.
func round(t *testing.T, slot int) *world {
	t.Helper()
	w := newWorld(t)
	for unit := 1; unit <= 64; unit++ {
		w.put(t, at(unit, slot), node(unit%64+1), none)
		w.put(t, at(unit, 7), frame(unit), at(unit, slot))
	}
	return w
}

func TestP8_1DeleteOfAllNodesInARound(t *testing.T) {
	for _, slot := range []int{0, 6, 8, 15} {
		for _, first := range []int{1, 2, 40, 64} {
			w := round(t, slot)
			if got := w.delete(t, at(first, slot)); len(got.gone) != 128 || got.gone[0] != (api.Object{Kind: api.Node, Obj: first%64 + 1}) {
				t.Error(first, slot, got)
			}
			w.stays(t, "[] []")
		}
	}
}

func TestP8_1DeleteOfEachPlaceOfATree(t *testing.T) {
	for _, p := range tree(t).all() {
		for _, q := range append(tree(t).all(), none) {
			w := tree(t)
			w.delete(t, p)
			w.delete(t, q)
			w.delete(t, p)
		}
	}
}

func TestP8_1DeleteOfAllOfATreeInVariousOrders(t *testing.T) {
	l := tree(t).all()
	for step := 1; step < len(l); step += 2 {
		for first := range l {
			w, gone := tree(t), 0
			for i := range l {
				gone += len(w.delete(t, l[(first+i*step)%len(l)]).gone)
			}
			w.stays(t, "[] []")
			if gone != 11 {
				t.Error("of eleven objects went", gone)
			}
		}
	}
}

func TestP8_2RevokeOfTheZeroTable(t *testing.T) {
	w := newWorld(t)
	for _, p := range append(cantBe(), allPlaces()...) {
		expect(t, fmt.Sprint(p), w.revoke(t, p), "[] 4")
	}
}

func TestP8_2RevokeWhereNothingIs(t *testing.T) {
	w := tree(t)
	for _, p := range append(cantBe(), at(1, 4), at(5, 5), at(64, 14), at(2, 1)) {
		expect(t, fmt.Sprint(p), w.revoke(t, p), "[] 4")
	}
	w.delete(t, at(1, 1))
	expect(t, "where something was", w.revoke(t, at(1, 1)), "[] 4")
}

func TestP8_2RevokeOfOneThatHasNothingBelow(t *testing.T) {
	w := tree(t)
	for _, p := range []api.Place{at(1, 0), at(1, 2), at(1, 9), at(64, 15), at(4, 1), at(30, 1)} {
		expect(t, fmt.Sprint(p), w.revoke(t, p), "[] 0")
	}
	if got := len(w.table.All()); got != 16 {
		t.Error("there are", got)
	}
}

// Copies go, what they were made of stays, and so does the object.
func TestP8_2RevokeOfCopies(t *testing.T) {
	w := newWorld(t, line{at(5, 5), frame(9), none}, line{at(1, 0), frame(9), at(5, 5)}, line{at(64, 0), frame(9), at(1, 0)}, line{at(2, 0), frame(9), at(64, 0)}, line{at(3, 0), frame(9), none}, line{at(3, 1), frame(9), at(3, 0)})
	expect(t, "of a copy", w.revoke(t, at(64, 0)), "[] 0")
	w.stays(t, "[{1 0} {3 0} {3 1} {5 5} {64 0}] [{5 5} {0 0} {3 0} {0 0} {1 0}]")
	expect(t, "of the first", w.revoke(t, at(5, 5)), "[] 0")
	w.stays(t, "[{3 0} {3 1} {5 5}] [{0 0} {3 0} {0 0}]")
	expect(t, "again", w.revoke(t, at(5, 5)), "[] 0")
	expect(t, "then deleted, while others name it", w.delete(t, at(5, 5)), "[] 0")
}

// The first of all that are below goes first, be it a child or a child's child.
func TestP8_2RevokeInTheOrderOfPlaces(t *testing.T) {
	w := newWorld(t, line{at(9, 9), untyped(10, 30), none}, line{at(9, 8), frame(11), at(9, 9)}, line{at(2, 0), frame(12), at(9, 8)}, line{at(2, 1), frame(13), at(9, 9)}, line{at(1, 15), frame(14), at(2, 0)}, line{at(64, 0), frame(15), at(1, 15)}, line{at(10, 0), frame(14), at(64, 0)})
	expect(t, "all", w.revoke(t, at(9, 9)), "[{3 12} {3 13} {3 11} {3 14} {3 15}] 0")
	w.stays(t, "[{9 9}] [{0 0}]")
}

func TestP8_2RevokeOfNodesWithinNodes(t *testing.T) {
	w := newWorld(t, line{at(20, 0), untyped(1, 60), none}, line{at(20, 2), node(3), at(20, 0)}, line{at(20, 1), node(4), at(20, 0)}, line{at(20, 3), frame(40), at(20, 0)},
		line{at(3, 1), frame(41), none}, line{at(3, 0), node(5), none}, line{at(5, 5), frame(42), at(20, 0)}, line{at(4, 0), frame(43), none}, line{at(4, 1), frame(40), none},
		line{at(21, 0), frame(44), at(5, 5)}, line{at(21, 1), frame(45), at(3, 1)})
	expect(t, "all", w.revoke(t, at(20, 0)), "[{3 42} {2 4} {3 43} {2 3} {2 5} {3 41} {3 40} {3 44}] 0")
	w.stays(t, "[{20 0} {21 1}] [{0 0} {0 0}]")
}

// Each delete may take others along that were below too: they are not deleted a second time.
func TestP8_2RevokeOfWhatGoesOnTheWay(t *testing.T) {
	w := newWorld(t, line{at(9, 0), untyped(1, 9), none}, line{at(9, 1), node(10), at(9, 0)}, line{at(10, 0), frame(3), at(9, 0)}, line{at(10, 1), node(11), at(10, 0)}, line{at(11, 3), frame(4), at(10, 1)}, line{at(12, 0), frame(5), at(11, 3)})
	expect(t, "all", w.revoke(t, at(9, 0)), "[{2 10} {3 3} {2 11} {3 4} {3 5}] 0")
	w.stays(t, "[{9 0}] [{0 0}]")
}

// The place that is revoked goes itself; from then on nothing is deleted, though there was more below it.
func TestP8_2RevokeOfOneThatGoesItself(t *testing.T) {
	w := newWorld(t, line{at(5, 0), frame(9), none}, line{at(6, 1), node(5), at(5, 0)}, line{at(6, 2), frame(8), at(6, 1)}, line{at(6, 0), frame(7), at(5, 0)}, line{at(6, 3), frame(9), at(5, 0)})
	expect(t, "in a node below", w.revoke(t, at(5, 0)), "[{3 7} {2 5}] 0")
	w.stays(t, "[{6 2} {6 3}] [{0 0} {0 0}]")
	expect(t, "again", w.revoke(t, at(5, 0)), "[] 4")

	w = newWorld(t, line{at(6, 9), frame(40), none}, line{at(5, 7), frame(9), at(6, 9)}, line{at(1, 1), node(4), at(5, 7)}, line{at(4, 4), node(5), none}, line{at(5, 8), frame(10), at(5, 7)}, line{at(5, 0), frame(11), none}, line{at(6, 0), frame(12), at(5, 7)})
	expect(t, "in a node of a node below", w.revoke(t, at(5, 7)), "[{2 4} {2 5} {3 11} {3 9} {3 10}] 0")
	w.stays(t, "[{6 0} {6 9}] [{6 9} {0 0}]")

	w = newWorld(t, line{at(5, 0), node(5), none}, line{at(5, 1), frame(3), at(5, 0)}, line{at(6, 0), node(5), at(5, 0)}, line{at(7, 0), frame(4), at(5, 0)})
	expect(t, "of a node in itself", w.revoke(t, at(5, 0)), "[{3 3} {3 4}] 0")
	w.stays(t, "[{5 0}] [{0 0}]")
}

// The node that the place stands in is named below it: whether the place goes with it hangs on who else names that node.
func TestP8_2RevokeOfOneWhoseOwnNodeIsDeleted(t *testing.T) {
	lines := []line{{at(5, 3), untyped(20, 9), none}, {at(1, 1), node(5), at(5, 3)}, {at(5, 9), frame(21), at(5, 3)}, {at(9, 9), frame(22), at(5, 3)}}
	w := newWorld(t, lines...)
	expect(t, "the last name of it", w.revoke(t, at(5, 3)), "[{2 5} {1 20} {3 21}] 0")
	w.stays(t, "[{9 9}] [{0 0}]")
	w = newWorld(t, append(lines, line{at(40, 0), node(5), none})...)
	expect(t, "while it is named elsewhere", w.revoke(t, at(5, 3)), "[{3 21} {3 22}] 0")
	w.stays(t, "[{5 3} {40 0}] [{0 0} {0 0}]")
	w = newWorld(t, append(lines, line{at(40, 0), node(5), at(9, 9)})...)
	expect(t, "with its last name behind all others", w.revoke(t, at(5, 3)), "[{3 21} {3 22} {2 5} {1 20}] 0")
	w.stays(t, "[] []")
}

func TestP8_2RevokeOfNodesThatStandInOneAnother(t *testing.T) {
	lines := []line{{at(1, 0), untyped(1, 64), none}, {at(2, 0), node(3), at(1, 0)}, {at(3, 0), node(2), at(1, 0)}, {at(2, 1), frame(5), none}, {at(3, 1), frame(6), at(2, 1)}}
	w := newWorld(t, lines...)
	expect(t, "each in the other", w.revoke(t, at(1, 0)), "[{2 3} {2 2} {3 5} {3 6}] 0")
	w.stays(t, "[{1 0}] [{0 0}]")
	w = newWorld(t, append(lines, line{at(3, 2), node(1), at(1, 0)})...)
	expect(t, "with the node of what is revoked", w.revoke(t, at(1, 0)), "[{2 3} {2 2} {3 5} {3 6} {2 1} {1 1}] 0")
	w.stays(t, "[] []")
	w = newWorld(t, line{at(2, 5), node(2), none}, line{at(2, 2), node(2), at(2, 5)}, line{at(2, 9), node(2), at(2, 2)}, line{at(2, 0), frame(7), at(2, 9)})
	expect(t, "in itself", w.revoke(t, at(2, 5)), "[{3 7}] 0")
	w.stays(t, "[{2 5}] [{0 0}]")
}

func TestP8_2RevokeOfEachPlaceOfATree(t *testing.T) {
	for _, p := range tree(t).all() {
		for _, q := range append(tree(t).all(), none) {
			w := tree(t)
			w.revoke(t, p)
			w.delete(t, q)
			w.revoke(t, q)
			w.revoke(t, p)
		}
	}
}

// row has each place below the one before, in a scattered order: 389 has no divisor in common with how many there are.
func row(t *testing.T, kinds func(i int) api.Cap) (*slots.Table, []api.Place) {
	t.Helper()
	var x slots.Table
	var l []api.Place
	parent := none
	for i := range 1024 {
		p := allPlaces()[i*389%1024]
		if !x.Put(p, kinds(i), parent) {
			t.Fatal(p)
		}
		l, parent = append(l, p), p
	}
	return &x, l
}

func TestP8_2RevokeInATableThatIsFull(t *testing.T) {
	x, l := row(t, func(i int) api.Cap { return frame(i%64 + 1) })
	if got := told(kill.Revoke(x, l[0])); got.code != api.Fine || len(got.gone) != 63 || slices.Contains(got.gone, api.Object{Kind: api.Frame, Obj: 1}) || !slices.Equal(x.All(), l[:1]) {
		t.Error("of frames", got, x.All())
	}
	x, l = row(t, func(i int) api.Cap { return frame(i%64 + 1) })
	if got := told(kill.Revoke(x, l[1023])); got.String() != "[] 0" || len(x.All()) != 1024 {
		t.Error("of the last", got, len(x.All()))
	}
	x, l = row(t, func(i int) api.Cap { return node(i%64 + 1) })
	if got := told(kill.Revoke(x, l[0])); got.code != api.Fine || len(got.gone) != 63 || !slices.Equal(x.All(), l[:1]) {
		t.Error("of nodes", got, x.All())
	}
}

// spoil writes all over a list and its spare room.
func spoil(l []api.Object) {
	l = l[:cap(l)]
	for i := range l {
		l[i] = api.Object{Kind: -7, Obj: -7}
	}
}

// apart makes two calls, each on what the one before has left, and writes into what either told.
func apart(t *testing.T, first, second func(w *world) answer) {
	t.Helper()
	for _, swap := range []bool{false, true} {
		w := tree(t)
		a, b := first(w), second(w)
		if swap {
			a, b = b, a
		}
		want := append(slices.Clone(b.gone), api.Object{Kind: 8, Obj: 8})
		got := append(b.gone, api.Object{Kind: 8, Obj: 8})
		spoil(append(a.gone, api.Object{Kind: 9, Obj: 9}))
		spoil(a.gone)
		if !slices.Equal(got, want) {
			t.Errorf("%v, not %v", got, want)
		}
		w.check(t, "behind a write to a list")
		w.revoke(t, at(1, 1))
	}
}

func TestP8_1ListsAreNewMemory(t *testing.T) {
	for _, p := range tree(t).all() {
		for _, q := range append(tree(t).all(), none) {
			apart(t, func(w *world) answer { return w.delete(t, p) }, func(w *world) answer { return w.delete(t, q) })
		}
	}
}

func TestP8_2ListsAreNewMemory(t *testing.T) {
	for _, p := range tree(t).all() {
		for _, q := range append(tree(t).all(), none) {
			apart(t, func(w *world) answer { return w.revoke(t, p) }, func(w *world) answer { return w.delete(t, q) })
			apart(t, func(w *world) answer { return w.revoke(t, p) }, func(w *world) answer { return w.revoke(t, q) })
		}
	}
}

func TestP8_1TablesAreApart(t *testing.T) {
	a, b := tree(t), tree(t)
	a.delete(t, at(1, 3))
	b.check(t, "behind a delete in another one")
	b.delete(t, at(2, 0))
	expect(t, "the node's last name in the one", a.delete(t, at(2, 0)), "[{2 3} {2 4} {7 16} {5 15}] 0")
	b.check(t, "behind a second one")
	b.revoke(t, at(1, 1))
	a.check(t, "behind a revoke in another one")
}
