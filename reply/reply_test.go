package reply_test

import (
	"testing"

	"ringkern/api"
	"ringkern/reply"
)

func TestP15_1TakeOfTheZeroValue(t *testing.T) {
	var c reply.Cell
	if x, is := c.Take(); is || x != (api.ID{}) {
		t.Error(x, is)
	}
}

func TestP15_1CallerOfTheZeroValue(t *testing.T) {
	var c reply.Cell
	if x, is := c.Caller(); is || x != (api.ID{}) {
		t.Error(x, is)
	}
}

func TestP15_1DropOfTheZeroValue(t *testing.T) {
	for _, x := range ids() {
		var c reply.Cell
		if c.Drop(x) {
			t.Error(x)
		}
	}
	b := begin(t)
	for _, x := range ids() {
		if b.drop(t, x) {
			t.Error(x)
		}
	}
	b.stands(t, "nobody")
}

func TestP15_1BindWhereNobodyWaits(t *testing.T) {
	for _, x := range ids() {
		var c reply.Cell
		if y, is := c.Bind(x); is || y != (api.ID{}) {
			t.Error(x, y, is)
		}
		if y, is := c.Caller(); !is || y != x {
			t.Error(x, y, is)
		}
		for way := range ways {
			b := bound(t, x)
			b.goes(t, way)
			if b.bind(t, x) != nobody {
				t.Error(x, way)
			}
			b.ends(t, way)
		}
	}
}

func TestP15_1BindTellsWhomItPutOut(t *testing.T) {
	b := begin(t)
	for _, x := range []struct {
		id     api.ID
		ahead  told
		stands string
	}{
		{id(3, 1), nobody, "3.1"}, {id(1, 2), told{id(3, 1), true}, "1.2"}, {id(0, 0), told{id(1, 2), true}, "0.0"},
		{id(-1, 5), told{id(0, 0), true}, "-1.5"}, {id(3, 1), told{id(-1, 5), true}, "3.1"}, {id(2, 2), told{id(3, 1), true}, "2.2"},
	} {
		if g := b.bind(t, x.id); g != x.ahead {
			t.Errorf("Bind(%v): %v, not %v", x.id, g, x.ahead)
		}
		b.stands(t, x.stands)
	}
	for _, x := range []api.ID{id(3, 1), id(1, 2), id(0, 0), id(-1, 5)} {
		if b.drop(t, x) {
			t.Error("put out, and it waits:", x)
		}
	}
	b.stands(t, "2.2")
	// One waits at most: the one that is put out does not wait again when the other goes.
	if b.take(t) != (told{id(2, 2), true}) || b.take(t) != nobody {
		t.Error("Take")
	}
	b.stands(t, "nobody")
}

func TestP15_1BindOfEachInThePlaceOfEach(t *testing.T) {
	for _, x := range ids() {
		for i, y := range ids() {
			b := bound(t, x)
			if g := b.bind(t, y); g != (told{x, true}) {
				t.Fatal(x, y, g)
			}
			if x != y && b.drop(t, x) {
				t.Fatal("put out, and it waits:", x, y)
			}
			b.ends(t, i%ways)
		}
	}
}

func TestP15_1BindOfTheOneThatWaits(t *testing.T) {
	for _, x := range ids() {
		b := bound(t, x)
		for range 3 {
			if g := b.bind(t, x); g != (told{x, true}) {
				t.Error(x, g)
			}
		}
		// It waits once, however often it came.
		if !b.drop(t, x) || b.drop(t, x) || b.take(t) != nobody {
			t.Error("Drop", x)
		}
		b.bind(t, x)
		b.bind(t, x)
		if b.take(t) != (told{x, true}) || b.take(t) != nobody || b.drop(t, x) {
			t.Error("Take", x)
		}
		b.stands(t, "nobody")
	}
}

func TestP15_1CallerChangesNothing(t *testing.T) {
	for way := range ways {
		b := begin(t)
		for range 50 {
			b.check(t, "Caller", "")
		}
		b.stands(t, "nobody")
		if b.bind(t, id(4, 5)) != nobody {
			t.Error("Bind")
		}
		for range 50 {
			b.check(t, "Caller", "")
		}
		b.stands(t, "4.5")
		b.goes(t, way)
		for range 50 {
			b.check(t, "Caller", "")
		}
		b.ends(t, way)
	}
}

// asked is what a row of calls tells, with looks at the caller between them or without.
func asked(looks int) (out []any) {
	var c reply.Cell
	d := draw(99)
	for range 500 {
		x := d.id()
		switch d.below(4) {
		case 0:
			out = append(out, tell(c.Take()))
		case 1:
			out = append(out, c.Drop(x))
		default:
			out = append(out, tell(c.Bind(x)))
		}
		for range looks {
			c.Caller()
		}
	}
	return out
}

func TestP15_1WhoLooksAtTheCallerChangesNothing(t *testing.T) {
	want := asked(0)
	for _, looks := range []int{1, 2, 3} {
		for i, g := range asked(looks) {
			if g != want[i] {
				t.Fatal(looks, i, g, want[i])
			}
		}
	}
}

func TestP15_1TakeAndTakeAgain(t *testing.T) {
	for _, x := range ids() {
		b := bound(t, x)
		if g := b.take(t); g != (told{x, true}) {
			t.Error(x, g)
		}
		b.stands(t, "nobody")
		for range 3 {
			if g := b.take(t); g != nobody {
				t.Error(x, g)
			}
		}
		if b.drop(t, x) {
			t.Error("taken, and it waits:", x)
		}
		b.ends(t, taken)
	}
}

func TestP15_1DropOfTheOneThatWaits(t *testing.T) {
	for _, x := range ids() {
		b := bound(t, x)
		if !b.drop(t, x) {
			t.Error(x)
		}
		b.stands(t, "nobody")
		for range 3 {
			if b.drop(t, x) {
				t.Error("dropped, and it waits:", x)
			}
		}
		if b.take(t) != nobody {
			t.Error("Take", x)
		}
		b.ends(t, dropped)
	}
}

func TestP15_1DropOfAnotherOne(t *testing.T) {
	for i, x := range ids() {
		b := bound(t, x)
		for _, y := range ids() {
			if x != y && b.drop(t, y) {
				t.Fatal(x, y)
			}
		}
		if tell(b.cell.Caller()) != (told{x, true}) {
			t.Error(x)
		}
		b.ends(t, i%ways)
	}
}

func TestP15_1DropOfOneThatIsGone(t *testing.T) {
	for way := range ways {
		for _, x := range ids() {
			b := bound(t, x)
			b.goes(t, way)
			if b.drop(t, x) {
				t.Error("nobody waits", way, x)
			}
			b.stands(t, "nobody")
			// Nor where another one waits by now.
			b.bind(t, id(5, 6))
			if b.drop(t, x) || !b.drop(t, id(5, 6)) || b.drop(t, id(5, 6)) {
				t.Error("another one waits", way, x)
			}
			b.ends(t, way)
		}
	}
}

func TestP15_1DropOfOneThatWasPutOut(t *testing.T) {
	b := bound(t, id(1, 1))
	b.bind(t, id(2, 2))
	b.bind(t, id(3, 3))
	if b.drop(t, id(1, 1)) || b.drop(t, id(2, 2)) {
		t.Error("it was put out")
	}
	b.stands(t, "3.3")
	if !b.drop(t, id(3, 3)) || b.drop(t, id(2, 2)) || b.drop(t, id(1, 1)) {
		t.Error("Drop")
	}
	b.stands(t, "nobody")
}

func TestP15_1OneThatIsGoneComesAgain(t *testing.T) {
	for way := range ways {
		for _, x := range ids() {
			b := bound(t, x)
			for again := range ways {
				b.goes(t, way)
				if g := b.bind(t, x); g != nobody {
					t.Error(way, x, g)
				}
				b.goes(t, again)
				if g := b.bind(t, x); g != nobody {
					t.Error(way, again, x, g)
				}
			}
			if b.take(t) != (told{x, true}) {
				t.Error("Take", way, x)
			}
			b.ends(t, way)
		}
	}
}

// One that was put out puts out the one that did it.
func TestP15_1OneThatWasPutOutComesAgain(t *testing.T) {
	b := bound(t, id(1, 1))
	for i := range 10 {
		if b.bind(t, id(2, i)) != (told{id(1, 1), true}) {
			t.Error("Bind of the other", i)
		}
		if b.bind(t, id(1, 1)) != (told{id(2, i), true}) {
			t.Error("Bind", i)
		}
		b.stands(t, "1.1")
	}
	b.ends(t, dropped)
}

func TestP15_1AnIDOfZerosIsAsGoodAsAny(t *testing.T) {
	zero := told{id(0, 0), true}
	b := begin(t)
	b.stands(t, "nobody")
	if b.drop(t, id(0, 0)) || b.take(t) != nobody {
		t.Error("it does not wait yet")
	}
	if b.bind(t, id(0, 0)) != nobody {
		t.Error("Bind where nobody waits")
	}
	b.stands(t, "0.0")
	if b.bind(t, id(0, 0)) != zero || b.bind(t, id(4, 0)) != zero || b.bind(t, id(0, 0)) != (told{id(4, 0), true}) {
		t.Error("Bind")
	}
	b.stands(t, "0.0")
	if b.drop(t, id(0, 1)) || b.drop(t, id(1, 0)) || b.drop(t, id(4, 0)) {
		t.Error("Drop of another one")
	}
	b.stands(t, "0.0")
	if !b.drop(t, id(0, 0)) {
		t.Error("Drop")
	}
	b.stands(t, "nobody")
	if b.drop(t, id(0, 0)) || b.take(t) != nobody || b.bind(t, id(0, 0)) != nobody || b.take(t) != zero {
		t.Error("dropped, and comes again")
	}
	b.stands(t, "nobody")
	if b.take(t) != nobody || b.drop(t, id(0, 0)) || b.bind(t, id(3, 3)) != nobody || b.drop(t, id(0, 0)) {
		t.Error("taken")
	}
	b.stands(t, "3.3")
}

func TestP15_1IDsThatDifferInOneNumber(t *testing.T) {
	for _, x := range []api.ID{id(1, 3), id(2, 2), id(2, 1), id(1, 1), id(-1, 2), id(1, -2), id(1, 0), id(0, 2), id(1+1<<32, 2), id(1, 2+1<<32), id(257, 2), id(1, 258)} {
		for way := range ways {
			b := bound(t, id(1, 2))
			if b.drop(t, x) {
				t.Error("Drop", x)
			}
			b.stands(t, "1.2")
			if b.bind(t, x) != (told{id(1, 2), true}) || b.drop(t, id(1, 2)) {
				t.Error("Bind", x)
			}
			b.ends(t, way)
		}
	}
}

// In each way each number of an ID stays what it was, however far from all.
func TestP15_1EachNumberFarFromAll(t *testing.T) {
	for _, ring := range far() {
		for i, seq := range far() {
			x := id(ring, seq)
			b := bound(t, x)
			if tell(b.cell.Caller()) != (told{x, true}) || b.bind(t, id(seq, ring)) != (told{x, true}) {
				t.Fatal(x)
			}
			if b.bind(t, x) != (told{id(seq, ring), true}) || ring != seq && b.drop(t, id(seq, ring)) {
				t.Fatal(x, "the other way round")
			}
			b.ends(t, i%ways)
		}
	}
}

// What a false stands beside is zero, whoever waited ahead of it.
func TestP15_1BesideAFalseIsZero(t *testing.T) {
	for way := range ways {
		for _, x := range ids() {
			b := bound(t, x)
			b.goes(t, way)
			for range 2 {
				if y, is := b.cell.Caller(); is || y != (api.ID{}) {
					t.Fatal("Caller", way, x, y, is)
				}
				if y, is := b.cell.Take(); is || y != (api.ID{}) {
					t.Fatal("Take", way, x, y, is)
				}
				if b.cell.Drop(x) {
					t.Fatal("Drop", way, x)
				}
			}
			if y, is := b.cell.Bind(x); is || y != (api.ID{}) {
				t.Fatal("Bind", way, x, y, is)
			}
		}
	}
}

// refused are calls that tell false and change nothing.
func refused(t *testing.T, c *reply.Cell) {
	t.Helper()
	there := tell(c.Caller())
	for _, x := range ids() {
		if there != (told{x, true}) && c.Drop(x) {
			t.Fatal("Drop", x)
		}
		if !there.is && tell(c.Take()) != nobody {
			t.Fatal("Take", x)
		}
	}
}

// What is refused changes nothing that a later call tells: one cell has refused calls ahead of each of its calls, the other has none.
func TestP15_1WhatIsRefusedChangesNothing(t *testing.T) {
	for seed := 1; seed <= 20; seed++ {
		d := draw(seed * 7919)
		var c, plain reply.Cell
		for i := range 80 {
			refused(t, &c)
			x, g, want := d.id(), any(nil), any(nil)
			switch d.below(4) {
			case 0:
				g, want = tell(c.Take()), tell(plain.Take())
			case 1:
				g, want = c.Drop(x), plain.Drop(x)
			default:
				g, want = tell(c.Bind(x)), tell(plain.Bind(x))
			}
			if g != want || tell(c.Caller()) != tell(plain.Caller()) {
				t.Fatal(seed, i, x, g, want)
			}
		}
	}
}

func TestP15_1TwoCellsAreApart(t *testing.T) {
	a, b, none := begin(t), begin(t), begin(t)
	for i, x := range ids() {
		// The rows of calls are of other lengths, so that each call meets each.
		for _, c := range []struct {
			*both
			k int
		}{{a, i % 4}, {b, i % 5}} {
			switch c.k {
			case 0, 1:
				c.bind(t, x)
			case 2:
				c.drop(t, c.model.caller().id)
			default:
				c.take(t)
			}
			a.check(t, "of the other", x)
			b.check(t, "of the other", x)
			none.check(t, "of the others", x)
		}
	}
	a.bind(t, id(1, 1))
	b.bind(t, id(2, 2))
	if a.drop(t, id(2, 2)) || b.drop(t, id(1, 1)) {
		t.Error("Drop")
	}
	none.stands(t, "nobody")
	a.stands(t, "1.1")
	b.stands(t, "2.2")
	a.ends(t, taken)
	b.stands(t, "2.2")
	// The same one may wait at both.
	a.bind(t, id(2, 2))
	if b.take(t) != (told{id(2, 2), true}) {
		t.Error("Take")
	}
	a.stands(t, "2.2")
	a.ends(t, dropped)
	none.stands(t, "nobody")
}
