package dup_test

import (
	"math"
	"slices"
	"testing"

	"ringkern/api"
	"ringkern/dup"
	"ringkern/slots"
)

// kindsAt has one of each kind in the node 1, in the slot of its kind's number.
func kindsAt(t *testing.T) *world {
	t.Helper()
	w := newWorld()
	for kind := api.Untyped; kind <= api.Ring; kind++ {
		w.put(t, at(1, kind), ofKind(kind), none)
	}
	return w
}

// tree has two that have no parent, four levels below the first, and parents behind and ahead of their children in the order of places.
func tree(t *testing.T) *world {
	t.Helper()
	w := newWorld()
	for i, x := range []struct{ p, parent api.Place }{
		{at(2, 3), none}, {at(2, 4), at(2, 3)}, {at(1, 15), at(2, 3)}, {at(64, 0), at(2, 4)}, {at(1, 2), at(64, 0)},
		{at(64, 15), at(1, 2)}, {at(2, 0), at(2, 4)}, {at(3, 0), none}, {at(30, 7), at(3, 0)},
	} {
		w.put(t, x.p, ofKind(1+i), x.parent)
	}
	return w
}

// cantBe are places that are none, with those that a careless bound would take.
func cantBe() []api.Place {
	out := []api.Place{none, at(0, 1), at(0, 15), at(1, -1), at(1, 16), at(64, -1), at(64, 16), at(65, 0), at(65, 15), at(-1, 0), at(-1, -1), at(65, 16), at(2, 16), at(3, -1)}
	for _, n := range far() {
		out = append(out, at(n, 0), at(n, 15), at(n, n))
	}
	for _, n := range append(far(), api.Slots, api.Slots+1, 32) {
		out = append(out, at(1, n), at(64, n))
	}
	return out
}

func TestP7_1OfTheZeroTable(t *testing.T) {
	w := newWorld()
	for _, to := range append(cantBe(), at(1, 0), at(64, 15)) {
		for _, from := range append(cantBe(), at(1, 0), at(64, 15)) {
			if w.copy(t, from, to, 7) != api.EEmpty || w.copy(t, from, to, 8) != api.EEmpty || w.mint(t, from, to, 1) != api.EEmpty || w.move(t, from, to) != api.EEmpty {
				t.Fatal("from", from, "to", to)
			}
		}
	}
}

func TestP7_1CopyExamples(t *testing.T) {
	var x slots.Table
	if code := dup.Copy(&x, at(1, 0), at(1, 1), 7); code != api.EEmpty {
		t.Error("of an empty slot", code)
	}
	x.Put(at(1, 0), api.Cap{Kind: api.Endpoint, Obj: 5, Badge: 9, Rights: 6}, none)
	if code := dup.Copy(&x, at(1, 0), at(64, 15), 3); code != api.Fine {
		t.Error("to an empty slot", code)
	}
	if c, is := x.Get(at(64, 15)); !is || c != (api.Cap{Kind: api.Endpoint, Obj: 5, Badge: 9, Rights: 2}) || x.Parent(at(64, 15)) != at(1, 0) {
		t.Error("the copy", c, is, x.Parent(at(64, 15)))
	}
	if c, is := x.Get(at(1, 0)); !is || c != (api.Cap{Kind: api.Endpoint, Obj: 5, Badge: 9, Rights: 6}) || x.Parent(at(1, 0)) != none {
		t.Error("the first", c, is, x.Parent(at(1, 0)))
	}
}

func TestP7_1MintExamples(t *testing.T) {
	var x slots.Table
	x.Put(at(3, 1), api.Cap{Kind: api.Notif, Obj: 5, Rights: 5}, none)
	x.Put(at(3, 2), api.Cap{Kind: api.Node, Obj: 6, Size: 1, Badge: 1, Rights: 3}, at(3, 1))
	if code := dup.Mint(&x, at(3, 1), at(1, 1), 1<<31-1); code != api.Fine {
		t.Error("a badge", code)
	}
	if code := dup.Mint(&x, at(3, 2), at(1, 2), 0x0a04); code != api.Fine {
		t.Error("a guard", code)
	}
	if c, is := x.Get(at(1, 1)); !is || c != (api.Cap{Kind: api.Notif, Obj: 5, Badge: 1<<31 - 1, Rights: 5}) || x.Parent(at(1, 1)) != at(3, 1) {
		t.Error("what has the badge", c, is, x.Parent(at(1, 1)))
	}
	if c, is := x.Get(at(1, 2)); !is || c != (api.Cap{Kind: api.Node, Obj: 6, Size: 4, Badge: 10, Rights: 3}) || x.Parent(at(1, 2)) != at(3, 2) {
		t.Error("what has the guard", c, is, x.Parent(at(1, 2)))
	}
}

func TestP7_1MoveExamples(t *testing.T) {
	var x slots.Table
	c := api.Cap{Kind: api.Untyped, Obj: 5, Size: 4, Rights: 5}
	x.Put(at(1, 1), c, none)
	dup.Copy(&x, at(1, 1), at(1, 2), 7)
	dup.Copy(&x, at(1, 2), at(1, 3), 7)
	if code := dup.Move(&x, at(1, 2), at(9, 9)); code != api.Fine {
		t.Error("to an empty slot", code)
	}
	if got, is := x.Get(at(9, 9)); !is || got != c || x.Parent(at(9, 9)) != at(1, 1) || x.Parent(at(1, 3)) != at(9, 9) {
		t.Error("what was moved", got, is, x.Parent(at(9, 9)), x.Parent(at(1, 3)))
	}
	if _, is := x.Get(at(1, 2)); is || !slices.Equal(x.All(), []api.Place{at(1, 1), at(1, 3), at(9, 9)}) {
		t.Error("where it was", x.All())
	}
}

// Several things are amiss at once; the first that the chapter names is told.
func TestP7_1TheOrderOfTheCodes(t *testing.T) {
	w := kindsAt(t)
	w.put(t, at(2, 0), marked()[0], none)
	end, node, frame, badged, empty := at(1, api.Endpoint), at(1, api.Node), at(1, api.Frame), at(2, 0), at(5, 5)
	for i, x := range []struct {
		from, to        api.Place
		rights          int
		n               uint32
		copy, mint, mov int
	}{
		{empty, none, 8, 0, api.EEmpty, api.EEmpty, api.EEmpty},
		{empty, empty, 8, 0, api.EEmpty, api.EEmpty, api.EEmpty},
		{empty, end, 8, 0, api.EEmpty, api.EEmpty, api.EEmpty},
		{none, none, -1, 1 << 31, api.EEmpty, api.EEmpty, api.EEmpty},
		{at(65, 0), at(65, 0), -1, 1 << 31, api.EEmpty, api.EEmpty, api.EEmpty},
		{at(1, 16), end, 7, 1, api.EEmpty, api.EEmpty, api.EEmpty},
		{end, none, 8, 0, api.ERange, api.ERange, api.ERange},
		{end, at(1, 16), 8, 0, api.ERange, api.ERange, api.ERange},
		{frame, at(65, 0), 7, 1, api.ERange, api.ERange, api.ERange},
		{badged, at(1, -1), 7, 1, api.ERange, api.ERange, api.ERange},
		{end, end, 8, 0, api.EFull, api.EFull, api.EFull},
		{end, end, -1, 1 << 31, api.EFull, api.EFull, api.EFull},
		{node, end, 8, 9, api.EFull, api.EFull, api.EFull},
		{frame, node, math.MaxInt, 1, api.EFull, api.EFull, api.EFull},
		{badged, end, math.MinInt, 1, api.EFull, api.EFull, api.EFull},
		{end, badged, 7, 1, api.EFull, api.EFull, api.EFull},
	} {
		if code := w.copy(t, x.from, x.to, x.rights); code != x.copy {
			t.Error(i, "Copy", code)
		}
		if code := w.mint(t, x.from, x.to, x.n); code != x.mint {
			t.Error(i, "Mint", code)
		}
		if code := w.move(t, x.from, x.to); code != x.mov {
			t.Error(i, "Move", code)
		}
	}
}

// What is looked at last, when both places are as they should be.
func TestP7_1TheLastCodes(t *testing.T) {
	w := kindsAt(t)
	w.put(t, at(2, 0), marked()[0], none)
	end, node, frame, badged, empty := at(1, api.Endpoint), at(1, api.Node), at(1, api.Frame), at(2, 0), at(5, 5)
	for _, rights := range append(far(), 8, 9, 15, 16) {
		if code := w.copy(t, end, empty, rights); code != api.ERange {
			t.Error("rights", rights, code)
		}
	}
	for i, x := range []struct {
		from api.Place
		n    uint32
		want int
	}{
		{end, 0, api.EBadge}, {end, 1 << 31, api.ERange}, {end, 1<<32 - 1, api.ERange},
		{badged, 0, api.EBadge}, {badged, 1, api.EBadge}, {badged, 2, api.EBadge}, {badged, 1 << 31, api.EBadge},
		{node, 9, api.ERange}, {node, 0x0100, api.ERange}, {node, 0x1004, api.ERange}, {node, 0x10008, api.ERange}, {node, 1<<31 - 1, api.ERange}, {node, 1 << 31, api.ERange},
		{frame, 0, api.EKind}, {frame, 1, api.EKind}, {frame, 1 << 31, api.EKind},
	} {
		if code := w.mint(t, x.from, empty, x.n); code != x.want {
			t.Error(i, "Mint", code)
		}
	}
}

func TestP7_1CopyOfEachByEachRights(t *testing.T) {
	for _, c := range various() {
		w := newWorld()
		w.put(t, at(7, 7), c, none)
		for rights := range 8 {
			if code := w.copy(t, at(7, 7), at(8, rights), rights); code != api.Fine {
				t.Error(c, rights, code)
			}
		}
		for _, rights := range append(far(), 8, 9, 14, 15, 16, 23) {
			if code := w.copy(t, at(7, 7), at(9, 9), rights); code != api.ERange {
				t.Error(c, rights, code)
			}
		}
	}
}

func TestP7_1MintOfEachByEachWord(t *testing.T) {
	counts := map[int]int{}
	for _, c := range various() {
		for _, n := range words() {
			w := newWorld()
			w.put(t, at(7, 7), c, none)
			counts[w.mint(t, at(7, 7), at(8, 8), n)]++
		}
	}
	for _, code := range []int{api.Fine, api.EBadge, api.ERange, api.EKind} {
		if counts[code] == 0 {
			t.Error("no mint with code", code)
		}
	}
}

func TestP7_1MintOfEachKind(t *testing.T) {
	for _, x := range []struct {
		n     uint32
		kinds map[int]int
	}{
		{0, map[int]int{api.Endpoint: api.EBadge, api.Notif: api.EBadge, api.Node: api.Fine}},
		{1, map[int]int{api.Endpoint: api.Fine, api.Notif: api.Fine, api.Node: api.Fine}},
		{0xff08, map[int]int{api.Endpoint: api.Fine, api.Notif: api.Fine, api.Node: api.Fine}},
		{1<<31 - 1, map[int]int{api.Endpoint: api.Fine, api.Notif: api.Fine, api.Node: api.ERange}},
		{1 << 31, map[int]int{api.Endpoint: api.ERange, api.Notif: api.ERange, api.Node: api.ERange}},
	} {
		w := kindsAt(t)
		for kind := api.Untyped; kind <= api.Ring; kind++ {
			want, is := x.kinds[kind]
			if !is {
				want = api.EKind
			}
			if code := w.mint(t, at(1, kind), at(2, kind), x.n); code != want {
				t.Errorf("kind %d with %#x: %d, not %d", kind, x.n, code, want)
			}
		}
	}
}

// A badge is given once, through copies and moves too; a guard is given anew.
func TestP7_1MintOfWhatWasMinted(t *testing.T) {
	w := kindsAt(t)
	w.mint(t, at(1, api.Endpoint), at(2, 0), 5)
	w.copy(t, at(2, 0), at(2, 1), 7)
	w.move(t, at(2, 0), at(2, 2))
	for _, from := range []api.Place{at(2, 1), at(2, 2)} {
		for _, n := range []uint32{0, 5, 6, 1<<31 - 1, 1 << 31} {
			if code := w.mint(t, from, at(2, 3), n); code != api.EBadge {
				t.Error("a second badge", from, n, code)
			}
		}
	}
	if code := w.mint(t, at(1, api.Endpoint), at(2, 4), 5); code != api.Fine {
		t.Error("the same badge of the first", code)
	}
	from := at(1, api.Node)
	for size := range 9 {
		to := at(3, size)
		if code := w.mint(t, from, to, (1<<size-1)<<8|uint32(size)); code != api.Fine {
			t.Error("a guard of bits", size, code)
		}
		from = to
	}
	if code := w.mint(t, from, at(4, 0), 0); code != api.Fine || w.want[at(4, 0)].c != ofKind(api.Node) {
		t.Error("no guard any more", code, w.want[at(4, 0)])
	}
	w.checkTree(t, "guards")
}

func TestP7_1ToEachEdge(t *testing.T) {
	edges := append([]int{0, 1, 2, 14, api.Slots - 1, api.Slots, api.Slots + 1, api.MaxUnits - 1, api.MaxUnits}, far()...)
	for _, node := range edges {
		for _, slot := range edges {
			from, to, want := at(33, 7), at(node, slot), api.ERange
			if mayBe(to) {
				want = api.Fine
			}
			for i, call := range []func(w *world) int{
				func(w *world) int { return w.copy(t, from, to, 7) },
				func(w *world) int { return w.mint(t, from, to, 0x0302) },
				func(w *world) int { return w.move(t, from, to) },
			} {
				w := newWorld()
				w.put(t, from, ofKind(api.Node), none)
				if code := call(w); code != want {
					t.Fatal("call", i, "to", to, code)
				}
			}
		}
	}
}

func TestP7_1ToEachPlace(t *testing.T) {
	for _, call := range []func(x *slots.Table, from, to api.Place) int{
		func(x *slots.Table, from, to api.Place) int { return dup.Copy(x, from, to, 7) },
		func(x *slots.Table, from, to api.Place) int { return dup.Mint(x, from, to, 0) },
		dup.Move,
	} {
		for node := -2; node <= api.MaxUnits+2; node++ {
			for slot := -2; slot <= api.Slots+2; slot++ {
				var x slots.Table
				from, to, want := at(33, 7), at(node, slot), api.Fine
				x.Put(from, ofKind(api.Node), none)
				switch {
				case node < 1, node > 64, slot < 0, slot > 15:
					want = api.ERange
				case to == from:
					want = api.EFull
				}
				if got := call(&x, from, to); got != want {
					t.Fatal("to", to, got, want)
				}
				if _, is := x.Get(to); is != (want != api.ERange) {
					t.Fatal("to", to, is)
				}
			}
		}
	}
}

func TestP7_1FromWhereNothingCanBe(t *testing.T) {
	w := tree(t)
	for _, from := range append(cantBe(), at(5, 5), at(64, 14)) {
		for _, to := range []api.Place{none, from, at(5, 6), at(2, 3), at(65, 0)} {
			if w.copy(t, from, to, 7) != api.EEmpty || w.mint(t, from, to, 1) != api.EEmpty || w.move(t, from, to) != api.EEmpty {
				t.Error("from", from, "to", to)
			}
		}
	}
}

func TestP7_1FromAndToTheSamePlace(t *testing.T) {
	w := tree(t)
	for _, p := range w.all() {
		for _, rights := range []int{-1, 0, 7, 8} {
			if code := w.copy(t, p, p, rights); code != api.EFull {
				t.Error("Copy", p, rights, code)
			}
		}
		for _, n := range []uint32{0, 1, 1 << 31} {
			if code := w.mint(t, p, p, n); code != api.EFull {
				t.Error("Mint", p, n, code)
			}
		}
		if code := w.move(t, p, p); code != api.EFull {
			t.Error("Move", p, code)
		}
	}
	w.checkTree(t, "behind all")
}

func TestP7_1EachPairOfATree(t *testing.T) {
	places := append(tree(t).all(), at(1, 0), at(2, 5), at(64, 14), at(65, 0), none, at(2, 16))
	for _, from := range places {
		for _, to := range places {
			for _, rights := range []int{-1, 0, 5, 7, 8} {
				tree(t).copy(t, from, to, rights)
			}
			for _, n := range []uint32{0, 1, 0x0302, 0x0402, 1<<31 - 1, 1 << 31} {
				tree(t).mint(t, from, to, n)
			}
			w := tree(t)
			w.move(t, from, to)
			w.checkTree(t, "Move")
			w.move(t, to, from)
			w.checkTree(t, "Move and back")
		}
	}
}

func TestP7_1CopiesOfCopies(t *testing.T) {
	w := newWorld()
	w.put(t, at(1, 0), ofKind(api.Frame), none)
	for i, rights := range []int{7, 6, 7, 2, 7, 5, 7} {
		if code := w.copy(t, at(1, i), at(1, i+1), rights); code != api.Fine {
			t.Fatal(i, code)
		}
		w.copy(t, at(1, 0), at(2, i), rights)
	}
	w.checkTree(t, "copies")
	for i, want := range []int{7, 7, 6, 6, 2, 2, 0, 0} {
		if c, _ := w.table.Get(at(1, i)); c.Rights != want {
			t.Error(i, c)
		}
	}
	if got := len(w.table.Below(at(1, 1))); got != 6 {
		t.Error("below the first copy are", got)
	}
}

// What is moved keeps its parent and takes those below it along, whether it goes ahead of them or behind.
func TestP7_1MovesOfWhatHasOthersBelowIt(t *testing.T) {
	for _, p := range tree(t).all() {
		w := tree(t)
		from, parent := p, w.table.Parent(p)
		for i, to := range []api.Place{at(1, 0), at(40, 4), at(64, 14), p, at(2, 5)} {
			if code := w.move(t, from, to); code != api.Fine || w.table.Parent(to) != parent {
				t.Fatal("from", from, "to", to, code, w.table.Parent(to))
			}
			w.checkTree(t, "Move")
			if code := w.copy(t, to, at(50, i), 7); code != api.Fine {
				t.Fatal("a copy of what was moved", to, code)
			}
			w.checkTree(t, "Copy")
			if code := w.copy(t, from, at(51, i), 7); code != api.EEmpty {
				t.Fatal("a copy of where it was", from, code)
			}
			from = to
		}
	}
}

func TestP7_1ATableIsFilled(t *testing.T) {
	var x slots.Table
	last := at(1, 0)
	x.Put(last, ofKind(api.Node), none)
	for k := 1; k < api.MaxUnits*api.Slots; k++ {
		to, code := at(k/api.Slots+1, k%api.Slots), 0
		if k%2 == 0 {
			code = dup.Copy(&x, last, to, 7)
		} else {
			code = dup.Mint(&x, last, to, 1)
		}
		if code != api.Fine {
			t.Fatal(to, code)
		}
		last = to
	}
	if n := len(x.All()); n != api.MaxUnits*api.Slots || len(x.Below(at(1, 0))) != n-1 {
		t.Error("places that have one", n)
	}
	for _, p := range x.All() {
		if dup.Copy(&x, last, p, 7) != api.EFull || dup.Mint(&x, last, p, 0) != api.EFull || dup.Move(&x, last, p) != api.EFull {
			t.Fatal("one more at", p)
		}
	}
	if dup.Copy(&x, last, at(65, 0), 7) != api.ERange || dup.Move(&x, last, at(64, 16)) != api.ERange {
		t.Error("one more behind all")
	}
}

func TestP7_1TablesAreApart(t *testing.T) {
	a, b := tree(t), tree(t)
	a.copy(t, at(2, 3), at(5, 5), 7)
	b.check(t, "behind a copy in another one")
	b.move(t, at(2, 3), at(5, 5))
	a.check(t, "behind a move in another one")
	b.mint(t, at(2, 4), at(5, 6), 1)
	a.check(t, "behind a mint in another one")
}
