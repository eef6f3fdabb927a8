package retype_test

import (
	"fmt"
	"testing"

	"ringkern/api"
	"ringkern/kill"
)

// What a call tells beside each code.
const (
	isEmpty   = "{0 0 0 0 0} 4"
	wrongKind = "{0 0 0 0 0} 5"
	noRange   = "{0 0 0 0 0} 7"
	isFull    = "{0 0 0 0 0} 3"
	noMem     = "{0 0 0 0 0} 8"
)

// plain has an Untyped of six units, and one of each other kind, of units that are none of these.
func plain(t *testing.T) *world {
	t.Helper()
	w := newWorld(t, line{at(1, 0), untyped(10, 6), none})
	for kind := api.Node; kind <= api.Ring; kind++ {
		w.put(t, at(1, kind), ofKind(kind, 30+kind), none)
	}
	return w
}

func TestP9_2MakeInTheZeroTable(t *testing.T) {
	w := newWorld(t)
	for _, from := range append(cantBe(), at(1, 0), at(64, 15)) {
		for _, to := range []api.Place{none, at(1, 0), at(1, 1), at(64, 15), at(65, 0)} {
			w.makeIs(t, from, to, api.Frame, 0, isEmpty)
			w.makeIs(t, from, to, 99, -5, isEmpty)
		}
	}
}

func TestP9_2MakeWhereNothingIs(t *testing.T) {
	w := plain(t)
	for _, from := range append(cantBe(), at(1, 1), at(1, 10), at(10, 0), at(64, 15)) {
		w.makeIs(t, from, at(2, 0), api.Frame, 0, isEmpty)
	}
	w.drop(t, at(1, 0))
	w.makeIs(t, at(1, 0), at(2, 0), api.Frame, 0, isEmpty)
}

func TestP9_2MakeOfEachKind(t *testing.T) {
	for _, rights := range []int{7, 0, api.Read, api.Grant | api.Write} {
		w := newWorld(t, line{at(1, 0), api.Cap{Kind: api.Untyped, Obj: 10, Size: 9, Rights: rights}, none})
		w.makeIs(t, at(1, 0), at(1, 1), api.Node, 0, "{2 10 0 0 7} 0")
		w.makeIs(t, at(1, 0), at(1, 2), api.Frame, 0, "{3 11 0 0 7} 0")
		w.makeIs(t, at(1, 0), at(64, 15), api.Endpoint, 0, "{4 12 0 0 7} 0")
		w.makeIs(t, at(1, 0), at(10, 0), api.Notif, 0, "{5 13 0 0 7} 0")
		w.makeIs(t, at(1, 0), at(1, 3), api.Untyped, 3, "{1 14 3 0 7} 0")
		w.usedIs(t, 10, 9, 7)
		w.makeIs(t, at(1, 0), at(1, 4), api.Reply, 0, "{7 17 0 0 7} 0")
		w.makeIs(t, at(1, 0), at(1, 5), api.Untyped, 1, "{1 18 1 0 7} 0")
		w.usedIs(t, 10, 9, 9)
		w.stays(t, "[{1 0} {1 1} {1 2} {1 3} {1 4} {1 5} {10 0} {64 15}] [{0 0} {1 0} {1 0} {1 0} {1 0} {1 0} {1 0} {1 0}]")
	}
}

func TestP9_2MakeInEachPlace(t *testing.T) {
	for _, to := range allPlaces() {
		w := newWorld(t, line{at(1, 0), untyped(64, 1), none})
		if to == at(1, 0) {
			w.makeIs(t, at(1, 0), to, api.Notif, 0, isFull)
			continue
		}
		w.makeIs(t, at(1, 0), to, api.Notif, 0, "{5 64 0 0 7} 0")
	}
}

func TestP9_2MakeOutOfWhatIsNoUntyped(t *testing.T) {
	w := plain(t)
	for kind := api.Node; kind <= api.Ring; kind++ {
		for _, to := range append(cantBe(), at(1, 0), at(1, kind), at(2, 2)) {
			w.makeIs(t, at(1, kind), to, api.Frame, 0, wrongKind)
			w.makeIs(t, at(1, kind), to, api.Untyped, 1, wrongKind)
			w.makeIs(t, at(1, kind), to, 99, 99, wrongKind)
		}
	}
}

func TestP9_2MakeInAPlaceThatCantBe(t *testing.T) {
	w := plain(t)
	for _, to := range cantBe() {
		w.makeIs(t, at(1, 0), to, api.Frame, 0, noRange)
		w.makeIs(t, at(1, 0), to, api.Untyped, 2, noRange)
		w.makeIs(t, at(1, 0), to, api.Thread, 0, noRange)
	}
	w.usedIs(t, 10, 6, 0)
}

func TestP9_2MakeInAPlaceThatHasOne(t *testing.T) {
	w := plain(t)
	for _, to := range []api.Place{at(1, 0), at(1, 2), at(1, 3), at(1, 9)} {
		w.makeIs(t, at(1, 0), to, api.Frame, 0, isFull)
		w.makeIs(t, at(1, 0), to, api.Frame, 1, isFull)
		w.makeIs(t, at(1, 0), to, -1, 0, isFull)
		w.makeIs(t, at(1, 0), to, api.Untyped, 65, isFull)
	}
	w.makeIs(t, at(1, 0), at(1, 1), api.Frame, 0, "{3 10 0 0 7} 0")
	w.makeIs(t, at(1, 0), at(1, 1), api.Frame, 0, isFull)
	w.usedIs(t, 10, 6, 1)
}

func TestP9_2MakeOfAKindThatIsNotMade(t *testing.T) {
	w := plain(t)
	for _, kind := range notMade() {
		for _, size := range append(far(), 0, 1, 6, 64) {
			w.makeIs(t, at(1, 0), at(2, 2), kind, size, wrongKind)
		}
	}
	w.usedIs(t, 10, 6, 0)
}

func TestP9_2MakeOfAnUntypedOfEachSize(t *testing.T) {
	w := newWorld(t, line{at(1, 0), untyped(1, 64), none})
	for size := 1; size <= 64; size++ {
		w.makeIs(t, at(1, 0), at(1, 1), api.Untyped, size, fmt.Sprintf("{1 1 %d 0 7} 0", size))
		w.usedIs(t, 1, 64, size)
		w.drop(t, at(1, 1))
	}
	for _, size := range append(far(), 0, 65) {
		w.makeIs(t, at(1, 0), at(1, 1), api.Untyped, size, noRange)
	}
	w.usedIs(t, 1, 64, 64)
}

// MaxUnits is a size that may be asked, however few there are; one more isn't.
func TestP9_2MakeOfAnUntypedThatIsTooGreat(t *testing.T) {
	w := plain(t)
	for size := 7; size <= 64; size++ {
		w.makeIs(t, at(1, 0), at(2, 2), api.Untyped, size, noMem)
	}
	w.makeIs(t, at(1, 0), at(2, 2), api.Untyped, 65, noRange)
	w.makeIs(t, at(1, 0), at(2, 2), api.Untyped, 0, noRange)
	w.makeIs(t, at(1, 0), at(2, 2), api.Untyped, 6, "{1 10 6 0 7} 0")
}

func TestP9_2MakeOfOtherKindsHasNoSize(t *testing.T) {
	w := plain(t)
	for _, kind := range made() {
		for _, size := range append(far(), 1, 2, 6, 64) {
			w.makeIs(t, at(1, 0), at(2, 2), kind, size, noRange)
		}
	}
	w.usedIs(t, 10, 6, 0)
}

// What is told ahead of the range leaves it as it is, though nothing is made of it any more.
func TestP9_2MakeThatTellsACodeAheadResetsNothing(t *testing.T) {
	w := plain(t)
	w.take(t, units(10, 6), 4)
	w.makeIs(t, at(1, 0), at(2, 16), api.Frame, 0, noRange)
	w.makeIs(t, at(1, 0), at(1, 2), api.Frame, 0, isFull)
	w.makeIs(t, at(1, 0), at(2, 2), api.Thread, 0, wrongKind)
	w.makeIs(t, at(1, 0), at(2, 2), api.Untyped, 65, noRange)
	w.makeIs(t, at(1, 0), at(2, 2), api.Untyped, 0, noRange)
	w.makeIs(t, at(1, 0), at(2, 2), api.Frame, 1, noRange)
	w.makeIs(t, at(1, 2), at(2, 2), api.Frame, 0, wrongKind)
	w.usedIs(t, 10, 6, 4)
	w.makeIs(t, at(1, 0), at(2, 2), api.Frame, 0, "{3 10 0 0 7} 0")
	w.usedIs(t, 10, 6, 1)
}

// Each of the codes with each of those that are named behind it.
func TestP9_2MakeTellsTheFirstOfSeveralCodes(t *testing.T) {
	w := plain(t)
	w.put(t, at(1, 15), frame(15), none)
	w.makeIs(t, at(1, 0), at(1, 1), api.Untyped, 5, "{1 10 5 0 7} 0")
	froms := []api.Place{at(0, 0), at(5, 5), at(1, 16), at(1, 2), at(1, 15), at(1, 1), at(1, 0)}
	tos := []api.Place{none, at(1, 16), at(65, 1), at(1, 0), at(1, 1), at(1, 2), at(5, 5), at(2, 0)}
	seen := map[int]bool{}
	for _, from := range froms {
		for _, to := range tos {
			for _, kind := range []int{-1, 0, api.Untyped, api.Node, api.Thread, api.Reply, api.Space, 10} {
				for _, size := range []int{-1, 0, 1, 2, 6, 64, 65} {
					seen[w.make(t, from, to, kind, size).code] = true
					for _, p := range []api.Place{at(5, 5), at(2, 0)} {
						if w.has(p) {
							w.drop(t, p)
						}
					}
				}
			}
		}
	}
	if len(seen) != 6 {
		t.Error("codes that came", seen)
	}
}

// Of one unit, of some that end with the last of all, of all.
func TestP9_2MakeUpToTheLastUnit(t *testing.T) {
	for _, r := range []api.Range{units(1, 1), units(64, 1), units(63, 2), units(30, 10), units(1, 64), units(2, 63)} {
		w := newWorld(t, line{at(1, 0), untyped(r.Base, r.Size), none})
		for i := range r.Size {
			w.makeIs(t, at(1, 0), at(2+i/16, i%16), api.Notif, 0, fmt.Sprintf("{5 %d 0 0 7} 0", r.Base+i))
		}
		w.makeIs(t, at(1, 0), at(60, 0), api.Notif, 0, noMem)
		w.makeIs(t, at(1, 0), at(60, 0), api.Untyped, 1, noMem)
		w.usedIs(t, r.Base, r.Size, r.Size)
	}
}

func TestP9_2MakeOfMoreThanAreLeft(t *testing.T) {
	w := plain(t)
	w.makeIs(t, at(1, 0), at(2, 0), api.Frame, 0, "{3 10 0 0 7} 0")
	w.makeIs(t, at(1, 0), at(2, 1), api.Untyped, 6, noMem)
	w.makeIs(t, at(1, 0), at(2, 1), api.Untyped, 64, noMem)
	w.usedIs(t, 10, 6, 1)
	w.makeIs(t, at(1, 0), at(2, 1), api.Untyped, 4, "{1 11 4 0 7} 0")
	w.makeIs(t, at(1, 0), at(2, 2), api.Untyped, 2, noMem)
	w.makeIs(t, at(1, 0), at(2, 2), api.Untyped, 1, "{1 15 1 0 7} 0")
	w.makeIs(t, at(1, 0), at(2, 3), api.Untyped, 1, noMem)
	w.makeIs(t, at(1, 0), at(2, 3), api.Reply, 0, noMem)
}

// A range is told by its units alone: Untypeds of the same first one have marks of their own.
func TestP9_2MakeOutOfUntypedsOfUntypeds(t *testing.T) {
	w := newWorld(t, line{at(1, 0), untyped(10, 20), none})
	w.makeIs(t, at(1, 0), at(1, 1), api.Untyped, 12, "{1 10 12 0 7} 0")
	w.makeIs(t, at(1, 1), at(1, 2), api.Untyped, 5, "{1 10 5 0 7} 0")
	w.makeIs(t, at(1, 2), at(1, 3), api.Untyped, 1, "{1 10 1 0 7} 0")
	w.makeIs(t, at(1, 3), at(1, 4), api.Node, 0, "{2 10 0 0 7} 0")
	w.makeIs(t, at(1, 3), at(1, 5), api.Node, 0, noMem)
	w.makeIs(t, at(1, 2), at(10, 5), api.Endpoint, 0, "{4 11 0 0 7} 0")
	w.makeIs(t, at(1, 1), at(10, 6), api.Untyped, 7, "{1 15 7 0 7} 0")
	w.makeIs(t, at(1, 1), at(10, 7), api.Frame, 0, noMem)
	w.makeIs(t, at(10, 6), at(10, 7), api.Frame, 0, "{3 15 0 0 7} 0")
	w.makeIs(t, at(1, 0), at(10, 8), api.Reply, 0, "{7 22 0 0 7} 0")
	for _, x := range [][3]int{{10, 20, 13}, {10, 12, 12}, {10, 5, 2}, {10, 1, 1}, {15, 7, 1}} {
		w.usedIs(t, x[0], x[1], x[2])
	}
	w.stays(t, "[{1 0} {1 1} {1 2} {1 3} {1 4} {10 5} {10 6} {10 7} {10 8}] [{0 0} {1 0} {1 1} {1 2} {1 3} {1 2} {1 1} {10 6} {1 0}]")
	w.drop(t, at(1, 4))
	w.makeIs(t, at(1, 3), at(1, 5), api.Reply, 0, "{7 10 0 0 7} 0")
	w.drop(t, at(1, 5))
	w.makeIs(t, at(1, 2), at(1, 5), api.Reply, 0, "{7 12 0 0 7} 0")
	w.drop(t, at(1, 5))
	w.drop(t, at(10, 5))
	w.makeIs(t, at(1, 2), at(1, 5), api.Reply, 0, "{7 13 0 0 7} 0")
	w.drop(t, at(1, 5))
	w.drop(t, at(1, 3))
	w.makeIs(t, at(1, 2), at(1, 5), api.Reply, 0, "{7 10 0 0 7} 0")
	w.makeIs(t, at(1, 1), at(1, 6), api.Untyped, 1, noMem)
	w.usedIs(t, 10, 5, 1)
	w.usedIs(t, 10, 12, 12)
}

func TestP9_2MakeAgainWhereAllWasDropped(t *testing.T) {
	w := plain(t)
	for _, kind := range append(made(), api.Untyped) {
		size := 0
		if kind == api.Untyped {
			size = 1
		}
		for slot := range 6 {
			w.makeIs(t, at(1, 0), at(2, slot), kind, size, fmt.Sprintf("{%d %d %d 0 7} 0", kind, 10+slot, size))
		}
		for _, slot := range []int{3, 0, 5, 1, 4} {
			w.makeIs(t, at(1, 0), at(3, 3), kind, size, noMem)
			w.drop(t, at(2, slot))
		}
		w.makeIs(t, at(1, 0), at(3, 3), kind, size, noMem)
		w.usedIs(t, 10, 6, 6)
		w.drop(t, at(2, 2))
	}
	w.makeIs(t, at(1, 0), at(3, 3), api.Untyped, 2, "{1 10 2 0 7} 0")
	w.makeIs(t, at(1, 0), at(3, 4), api.Untyped, 4, "{1 12 4 0 7} 0")
}

// left has an Untyped of four units, of which three were taken, and beside it what is still there.
func left(t *testing.T, c api.Cap) *world {
	t.Helper()
	w := newWorld(t, line{at(1, 0), untyped(10, 4), none}, line{at(1, 1), c, none})
	w.take(t, units(10, 4), 3)
	return w
}

func (w *world) isKept(t *testing.T) {
	t.Helper()
	w.makeIs(t, at(1, 0), at(2, 0), api.Frame, 0, "{3 13 0 0 7} 0")
	w.usedIs(t, 10, 4, 4)
	w.makeIs(t, at(1, 0), at(2, 1), api.Frame, 0, noMem)
}

func (w *world) isFreeAgain(t *testing.T) {
	t.Helper()
	w.makeIs(t, at(1, 0), at(2, 0), api.Frame, 0, "{3 10 0 0 7} 0")
	w.usedIs(t, 10, 4, 1)
}

// A capability of each kind, to each unit in the range and beside it.
func TestP9_2ARangeWithOneCapabilityLeft(t *testing.T) {
	for kind := api.Untyped; kind <= api.Ring; kind++ {
		for unit := 10; unit <= 13; unit++ {
			left(t, ofKind(kind, unit)).isKept(t)
		}
		for _, unit := range []int{1, 8, 9, 14, 15, 64} {
			left(t, ofKind(kind, unit)).isFreeAgain(t)
		}
	}
}

// What a node's guard, what a badge says is no unit.
func TestP9_2ARangeWithABadgeOfItsNumbers(t *testing.T) {
	for _, c := range []api.Cap{{Kind: api.Node, Obj: 9, Size: 8, Badge: 11, Rights: 7}, {Kind: api.Node, Obj: 5, Size: 6, Badge: 12}, {Kind: api.Endpoint, Obj: 9, Badge: 10}, {Kind: api.Notif, Obj: 14, Badge: 13, Rights: 7}} {
		left(t, c).isFreeAgain(t)
		c.Obj = 11
		left(t, c).isKept(t)
	}
}

// Each Untyped that there can be, near the range.
func TestP9_2ARangeWithOneUntypedLeft(t *testing.T) {
	for base := 7; base <= 16; base++ {
		for size := 1; size <= 9; size++ {
			apart := base+size <= 10 || base > 13
			above := base <= 10 && base+size >= 14
			if w := left(t, untyped(base, size)); apart || above {
				w.isFreeAgain(t)
			} else {
				w.isKept(t)
			}
		}
	}
}

func TestP9_2ARangeWithSomeUntypedLeft(t *testing.T) {
	for _, c := range []api.Cap{untyped(11, 2), untyped(10, 1), untyped(13, 1), untyped(10, 3), untyped(11, 3), untyped(9, 2), untyped(9, 4), untyped(1, 12), untyped(13, 52), untyped(12, 8), untyped(11, 4), untyped(10, 2)} {
		left(t, c).isKept(t)
	}
	for _, c := range []api.Cap{untyped(10, 4), {Kind: api.Untyped, Obj: 10, Size: 4}, untyped(9, 5), untyped(10, 5), untyped(9, 6), untyped(1, 64), untyped(1, 13), untyped(10, 55), untyped(1, 9), untyped(14, 51), untyped(14, 1)} {
		left(t, c).isFreeAgain(t)
	}
}

// A range of one unit: a Frame has all of its units, but is no Untyped.
func TestP9_2ARangeOfOneUnit(t *testing.T) {
	for kind := api.Node; kind <= api.Ring; kind++ {
		w := newWorld(t, line{at(1, 0), untyped(64, 1), none}, line{at(1, 1), ofKind(kind, 64), none})
		w.take(t, units(64, 1), 1)
		w.makeIs(t, at(1, 0), at(2, 0), api.Frame, 0, noMem)
		w.drop(t, at(1, 1))
		w.makeIs(t, at(1, 0), at(2, 0), api.Frame, 0, "{3 64 0 0 7} 0")
		w.makeIs(t, at(1, 0), at(2, 1), api.Frame, 0, noMem)
	}
	w := newWorld(t, line{at(1, 0), untyped(1, 1), none}, line{at(1, 1), untyped(1, 1), at(1, 0)}, line{at(1, 2), untyped(1, 2), none})
	for slot := range 4 {
		w.makeIs(t, at(1, slot%3), at(2, slot), api.Untyped, 1, "{1 1 1 0 7} 0")
	}
}

// Of several that are left one is enough, wherever in the order of places it stands.
func TestP9_2ARangeWithOneAmongMany(t *testing.T) {
	others := []api.Cap{untyped(10, 4), untyped(9, 6), untyped(1, 64), frame(9), frame(14), untyped(14, 2), ofKind(api.Node, 64)}
	for i := range len(others) + 1 {
		w := newWorld(t, line{at(30, 0), untyped(10, 4), none})
		for slot, c := range others {
			w.put(t, at(29+slot%3, 1+slot), c, none)
		}
		w.put(t, at(29+i%3, 12), frame(13), none)
		w.take(t, units(10, 4), 4)
		w.makeIs(t, at(30, 0), at(2, 0), api.Reply, 0, noMem)
		w.drop(t, at(29+i%3, 12))
		w.makeIs(t, at(30, 0), at(2, 0), api.Reply, 0, "{7 10 0 0 7} 0")
	}
}

func TestP9_2AResetWhoseMakeTellsEMem(t *testing.T) {
	for _, used := range []int{1, 3, 6} {
		w := plain(t)
		w.take(t, units(10, 6), used)
		w.makeIs(t, at(1, 0), at(2, 0), api.Untyped, 7, noMem)
		w.usedIs(t, 10, 6, 0)
		w.makeIs(t, at(1, 0), at(2, 0), api.Untyped, 64, noMem)
		w.take(t, units(10, 6), used)
		w.put(t, at(3, 3), frame(12), none)
		w.makeIs(t, at(1, 0), at(2, 0), api.Untyped, 7, noMem)
		w.usedIs(t, 10, 6, used)
		w.drop(t, at(3, 3))
		w.makeIs(t, at(1, 0), at(2, 0), api.Untyped, 6, "{1 10 6 0 7} 0")
	}
}

// The whole range names the same object: it keeps nothing, and neither does another one of the same.
func TestP9_2MakeOfTheWholeRange(t *testing.T) {
	w := plain(t)
	for slot := range 4 {
		w.makeIs(t, at(1, 0), at(2, slot), api.Untyped, 6, "{1 10 6 0 7} 0")
	}
	w.usedIs(t, 10, 6, 6)
	w.makeIs(t, at(2, 3), at(2, 4), api.Frame, 0, "{3 10 0 0 7} 0")
	w.makeIs(t, at(2, 0), at(2, 5), api.Frame, 0, "{3 11 0 0 7} 0")
	w.makeIs(t, at(1, 0), at(2, 6), api.Frame, 0, "{3 12 0 0 7} 0")
	w.makeIs(t, at(1, 0), at(2, 7), api.Untyped, 6, noMem)
	w.usedIs(t, 10, 6, 3)
	w.stays(t, "[{1 0} {1 2} {1 3} {1 4} {1 5} {1 6} {1 7} {1 8} {1 9} {2 0} {2 1} {2 2} {2 3} {2 4} {2 5} {2 6}] [{0 0} {0 0} {0 0} {0 0} {0 0} {0 0} {0 0} {0 0} {0 0} {1 0} {1 0} {1 0} {1 0} {2 3} {2 0} {1 0}]")
}

// A copy has the same range, and so the same mark; what is made of it is below the copy.
func TestP9_2MakeOutOfACopy(t *testing.T) {
	w := newWorld(t, line{at(1, 0), untyped(10, 3), none}, line{at(1, 1), api.Cap{Kind: api.Untyped, Obj: 10, Size: 3, Rights: 1}, at(1, 0)})
	w.makeIs(t, at(1, 0), at(2, 0), api.Frame, 0, "{3 10 0 0 7} 0")
	w.makeIs(t, at(1, 1), at(2, 1), api.Frame, 0, "{3 11 0 0 7} 0")
	w.move(t, at(1, 1), at(50, 5))
	w.makeIs(t, at(50, 5), at(2, 2), api.Frame, 0, "{3 12 0 0 7} 0")
	w.makeIs(t, at(1, 0), at(2, 3), api.Frame, 0, noMem)
	w.makeIs(t, at(50, 5), at(2, 3), api.Frame, 0, noMem)
	w.stays(t, "[{1 0} {2 0} {2 1} {2 2} {50 5}] [{0 0} {1 0} {50 5} {50 5} {1 0}]")
	w.drop(t, at(1, 0))
	w.makeIs(t, at(50, 5), at(2, 3), api.Frame, 0, noMem)
	for slot := range 3 {
		w.drop(t, at(2, slot))
	}
	w.makeIs(t, at(50, 5), at(2, 3), api.Untyped, 3, "{1 10 3 0 7} 0")
}

// A copy of what was made keeps the range, though that itself is dropped.
func TestP9_2ACopyKeepsTheRange(t *testing.T) {
	w := newWorld(t, line{at(1, 0), untyped(10, 2), none})
	w.makeIs(t, at(1, 0), at(2, 0), api.Endpoint, 0, "{4 10 0 0 7} 0")
	w.makeIs(t, at(1, 0), at(2, 1), api.Endpoint, 0, "{4 11 0 0 7} 0")
	w.put(t, at(3, 0), api.Cap{Kind: api.Endpoint, Obj: 11, Badge: 5, Rights: 1}, at(2, 1))
	w.drop(t, at(2, 0))
	w.drop(t, at(2, 1))
	w.makeIs(t, at(1, 0), at(2, 2), api.Frame, 0, noMem)
	w.drop(t, at(3, 0))
	w.makeIs(t, at(1, 0), at(2, 2), api.Frame, 0, "{3 10 0 0 7} 0")
}

// A Revoke frees the range of what was made of it, and of what was made of that.
func TestP9_2MakeBehindARevoke(t *testing.T) {
	w := newWorld(t, line{at(1, 0), untyped(10, 8), none})
	w.makeIs(t, at(1, 0), at(1, 1), api.Untyped, 4, "{1 10 4 0 7} 0")
	w.makeIs(t, at(1, 1), at(1, 2), api.Frame, 0, "{3 10 0 0 7} 0")
	w.makeIs(t, at(1, 0), at(1, 3), api.Untyped, 4, "{1 14 4 0 7} 0")
	w.makeIs(t, at(1, 0), at(1, 4), api.Frame, 0, noMem)
	if gone, code := kill.Revoke(w.table, at(1, 0)); len(gone) != 3 || code != api.Fine {
		t.Error(gone, code)
	}
	w.want = map[api.Place]cell{at(1, 0): {untyped(10, 8), none}}
	w.makeIs(t, at(1, 0), at(1, 4), api.Untyped, 4, "{1 10 4 0 7} 0")
	w.usedIs(t, 10, 4, 1)
	w.makeIs(t, at(1, 4), at(1, 5), api.Frame, 0, "{3 10 0 0 7} 0")
	w.usedIs(t, 10, 4, 1)
	w.makeIs(t, at(1, 4), at(1, 6), api.Untyped, 3, "{1 11 3 0 7} 0")
}

// What was taken of the same range beside Make counts.
func TestP9_2MakeBehindATake(t *testing.T) {
	w := newWorld(t, line{at(1, 0), untyped(10, 6), none}, line{at(1, 1), ofKind(api.Thread, 15), none})
	w.take(t, units(10, 6), 2)
	w.take(t, units(10, 5), 5)
	w.makeIs(t, at(1, 0), at(2, 0), api.Untyped, 3, "{1 12 3 0 7} 0")
	w.take(t, units(10, 6), 1)
	w.makeIs(t, at(1, 0), at(2, 1), api.Frame, 0, noMem)
	w.reset(t, units(10, 6))
	w.makeIs(t, at(1, 0), at(2, 1), api.Frame, 0, "{3 10 0 0 7} 0")
}

func TestP9_2TablesAndMarksAreApart(t *testing.T) {
	a, b := plain(t), plain(t)
	a.makeIs(t, at(1, 0), at(2, 0), api.Untyped, 4, "{1 10 4 0 7} 0")
	b.check(t, "behind a make in another one")
	b.makeIs(t, at(1, 0), at(2, 0), api.Frame, 0, "{3 10 0 0 7} 0")
	a.check(t, "behind a second one")
	b.drop(t, at(2, 0))
	b.makeIs(t, at(1, 0), at(2, 1), api.Untyped, 7, noMem)
	a.check(t, "behind a reset in another one")
	a.makeIs(t, at(1, 0), at(2, 1), api.Frame, 0, "{3 14 0 0 7} 0")
	// the same marks with another table: what that has is what counts
	b.marks, b.used = a.marks, a.used
	b.makeIs(t, at(1, 0), at(2, 1), api.Frame, 0, "{3 10 0 0 7} 0")
	a.makeIs(t, at(1, 0), at(2, 2), api.Frame, 0, "{3 11 0 0 7} 0")
}

func TestP9_2MakeInATableThatIsFull(t *testing.T) {
	w := newWorld(t)
	for _, p := range allPlaces() {
		w.put(t, p, untyped(1, 64), none)
	}
	for _, p := range []api.Place{at(1, 0), at(1, 1), at(64, 15)} {
		w.makeIs(t, at(1, 0), p, api.Frame, 0, isFull)
		w.makeIs(t, at(64, 15), p, 0, 0, isFull)
	}
	w.drop(t, at(33, 3))
	w.makeIs(t, at(64, 15), at(33, 3), api.Frame, 0, "{3 1 0 0 7} 0")
	w.drop(t, at(33, 4))
	w.makeIs(t, at(1, 0), at(33, 4), api.Frame, 0, "{3 2 0 0 7} 0")
}
