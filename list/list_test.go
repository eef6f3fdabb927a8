package list_test

import (
	"fmt"
	"slices"
	"testing"

	"ringkern/api"
	"ringkern/list"
)

func TestP12_1OfTheZeroValue(t *testing.T) {
	b := begin(t)
	b.check(t, "at first", "")
	for _, x := range ids() {
		if b.drop(t, x) || b.list.Has(x) || b.pop(t) != (popped{}) {
			t.Fatal(x)
		}
	}
	if len(b.list.All()) != 0 || b.list.Len() != 0 {
		t.Error("somebody waits")
	}
	if !b.push(t, id(5, 6)) {
		t.Error("nobody can be pushed")
	}
	b.stands(t, "[{5 6}]")
}

func TestP12_1PushIsBehindTheOthers(t *testing.T) {
	b := some(t)
	b.stands(t, "[{3 1} {1 2} {0 0} {-1 5} {2 2}]")
	if !b.push(t, id(1, 1)) || !b.push(t, id(9, 9)) || !b.push(t, id(-9, -9)) {
		t.Error("Push")
	}
	b.stands(t, "[{3 1} {1 2} {0 0} {-1 5} {2 2} {1 1} {9 9} {-9 -9}]")
	b.ends(t, false)
}

func TestP12_1PushOfOneThatIsThere(t *testing.T) {
	for _, x := range five() {
		for _, back := range []bool{false, true} {
			b := some(t)
			if b.push(t, x) || b.push(t, x) {
				t.Error("Push", x)
			}
			b.stands(t, "[{3 1} {1 2} {0 0} {-1 5} {2 2}]")
			b.ends(t, back)
		}
	}
	b := begin(t, id(7, 7))
	if b.push(t, id(7, 7)) {
		t.Error("Push of the only one")
	}
	b.stands(t, "[{7 7}]")
}

func TestP12_1PopIsTheFirst(t *testing.T) {
	b := some(t)
	for i, want := range []string{"{{3 1} true}", "{{1 2} true}", "{{0 0} true}", "{{-1 5} true}", "{{2 2} true}", "{{0 0} false}", "{{0 0} false}"} {
		if got := fmt.Sprint(b.pop(t)); got != want {
			t.Errorf("Pop %d: %s, not %s", i, got, want)
		}
	}
	b.stands(t, "[]")
}

func TestP12_1PoppedIsThereNoMore(t *testing.T) {
	b := some(t)
	for range five() {
		x := b.pop(t).id
		if b.list.Has(x) || b.drop(t, x) || slices.Contains(b.list.All(), x) {
			t.Error(x, "is there")
		}
	}
}

func TestP12_1PopOfOneThatHasNone(t *testing.T) {
	for name, empty := range map[string]func(*both){
		"popped":  func(b *both) { b.pop(t) },
		"dropped": func(b *both) { b.drop(t, id(4, 2)) },
	} {
		b := begin(t, id(4, 2))
		empty(b)
		if b.pop(t) != (popped{}) || b.drop(t, id(4, 2)) || b.drop(t, api.ID{}) || b.pop(t) != (popped{}) {
			t.Error(name)
		}
		b.stands(t, "[]")
		if !b.push(t, id(6, 6)) || !b.push(t, id(4, 2)) {
			t.Error(name, "and pushed again")
		}
		b.stands(t, "[{6 6} {4 2}]")
		b.ends(t, true)
	}
}

func TestP12_1DropOfEach(t *testing.T) {
	for _, x := range []struct {
		id   api.ID
		want string
	}{
		{id(3, 1), "[{1 2} {0 0} {-1 5} {2 2}]"}, {id(1, 2), "[{3 1} {0 0} {-1 5} {2 2}]"}, {id(0, 0), "[{3 1} {1 2} {-1 5} {2 2}]"},
		{id(-1, 5), "[{3 1} {1 2} {0 0} {2 2}]"}, {id(2, 2), "[{3 1} {1 2} {0 0} {-1 5}]"},
	} {
		for _, back := range []bool{false, true} {
			b := some(t)
			if !b.drop(t, x.id) || b.drop(t, x.id) || b.list.Has(x.id) {
				t.Errorf("Drop(%v)", x.id)
			}
			b.stands(t, x.want)
			b.ends(t, back)
		}
	}
}

func TestP12_1DropOfTheOnlyOne(t *testing.T) {
	for _, x := range ids() {
		b := begin(t, x)
		if !b.drop(t, x) || b.drop(t, x) || b.pop(t).is {
			t.Fatal("Drop", x)
		}
		b.stands(t, "[]")
	}
}

func TestP12_1DropOfOneThatIsNotThere(t *testing.T) {
	b := some(t)
	for _, x := range ids() {
		if want := slices.Contains(five(), x); !want && b.drop(t, x) {
			t.Fatal("Drop", x)
		}
	}
	b.stands(t, "[{3 1} {1 2} {0 0} {-1 5} {2 2}]")
	b.ends(t, true)
}

func TestP12_1DropInEachOrder(t *testing.T) {
	l := []api.ID{id(3, 1), id(1, 2), id(0, 0), id(-1, 5), id(2, 2), id(1, 1), id(4, 2)}
	for _, step := range []int{1, 2, 3, 4, 5, 6} {
		for first := range l {
			b := begin(t, l...)
			for i := range l {
				if !b.drop(t, l[(first+i*step)%len(l)]) {
					t.Error("Drop", first, i, step)
				}
			}
			b.stands(t, "[]")
		}
	}
}

func TestP12_1PushedAgainIsBehindTheOthers(t *testing.T) {
	for _, x := range []struct {
		id   api.ID
		want string
	}{
		{id(3, 1), "[{1 2} {0 0} {-1 5} {2 2} {3 1}]"}, {id(1, 2), "[{3 1} {0 0} {-1 5} {2 2} {1 2}]"}, {id(0, 0), "[{3 1} {1 2} {-1 5} {2 2} {0 0}]"},
		{id(-1, 5), "[{3 1} {1 2} {0 0} {2 2} {-1 5}]"}, {id(2, 2), "[{3 1} {1 2} {0 0} {-1 5} {2 2}]"},
	} {
		for _, back := range []bool{false, true} {
			b := some(t)
			if !b.drop(t, x.id) || !b.push(t, x.id) || b.push(t, x.id) {
				t.Errorf("Push(%v)", x.id)
			}
			b.stands(t, x.want)
			b.ends(t, back)
		}
	}
}

func TestP12_1PoppedAndPushedAgain(t *testing.T) {
	b := some(t)
	for range 12 {
		if x := b.pop(t); !x.is || !b.push(t, x.id) {
			t.Error("Push", x)
		}
	}
	b.stands(t, "[{0 0} {-1 5} {2 2} {3 1} {1 2}]")
	b.ends(t, false)
}

func TestP12_1AnIDOfZerosIsAsGoodAsAny(t *testing.T) {
	b := begin(t, api.ID{})
	if !b.list.Has(api.ID{}) || b.list.Len() != 1 || b.push(t, api.ID{}) {
		t.Error("alone")
	}
	b.stands(t, "[{0 0}]")
	if b.pop(t) != told(api.ID{}, true) || b.pop(t) != told(api.ID{}, false) || b.list.Has(api.ID{}) {
		t.Error("popped")
	}
	if !b.push(t, id(1, 0)) || !b.push(t, api.ID{}) || !b.push(t, id(0, 1)) {
		t.Error("with others")
	}
	b.stands(t, "[{1 0} {0 0} {0 1}]")
	if !b.drop(t, api.ID{}) || b.drop(t, api.ID{}) || !b.push(t, api.ID{}) {
		t.Error("dropped")
	}
	b.stands(t, "[{1 0} {0 1} {0 0}]")
	b.ends(t, false)
}

func TestP12_1IDsThatDifferInOneNumber(t *testing.T) {
	b := begin(t, id(1, 2))
	for _, x := range []api.ID{id(1, 3), id(2, 2), id(2, 1), id(1, 1), id(-1, 2), id(1, -2), id(1, 0), id(0, 2)} {
		if b.list.Has(x) || b.drop(t, x) || !b.push(t, x) || b.push(t, id(1, 2)) {
			t.Error(x)
		}
	}
	b.stands(t, "[{1 2} {1 3} {2 2} {2 1} {1 1} {-1 2} {1 -2} {1 0} {0 2}]")
	if !b.drop(t, id(1, 2)) || !b.drop(t, id(2, 2)) || !b.drop(t, id(1, 0)) {
		t.Error("Drop")
	}
	b.stands(t, "[{1 3} {2 1} {1 1} {-1 2} {1 -2} {0 2}]")
	b.ends(t, true)
}

func TestP12_1EachNumberFarFromAll(t *testing.T) {
	b := begin(t)
	for _, x := range ids() {
		if !b.push(t, x) || b.push(t, x) {
			t.Fatal("Push", x)
		}
	}
	if got := b.list.All(); !slices.Equal(got, ids()) {
		t.Error(got)
	}
	for i, x := range ids() {
		if i%3 == 0 && (!b.drop(t, x) || b.drop(t, x)) {
			t.Fatal("Drop", x)
		}
	}
	for i, x := range ids() {
		if i%3 != 0 && b.pop(t) != told(x, true) {
			t.Fatal("Pop", x)
		}
	}
	b.stands(t, "[]")
}

// What a list tells is as they came, whatever their numbers are, and however many they are.
func TestP12_1ManyAreAsTheyCame(t *testing.T) {
	var l list.List
	var want []api.ID
	for i := range 3000 {
		x := id(i*7919%3001-1500, i*104729%64)
		if !l.Push(x) || l.Len() != i+1 {
			t.Fatal("Push", i)
		}
		want = append(want, x)
	}
	for range 3 {
		if !slices.Equal(l.All(), want) {
			t.Fatal("All")
		}
	}
	var left []api.ID
	for i, x := range want {
		if i%5 != 2 {
			left = append(left, x)
		} else if !l.Drop(x) {
			t.Fatal("Drop", i)
		}
	}
	if !slices.Equal(l.All(), left) {
		t.Fatal("All, behind Drop")
	}
	for i, x := range left {
		if told(l.Pop()) != told(x, true) || l.Len() != len(left)-i-1 {
			t.Fatal("Pop", i)
		}
	}
}

// refused are calls that tell false and change nothing.
func refused(t *testing.T, l *list.List) {
	t.Helper()
	for _, x := range l.All() {
		if l.Push(x) {
			t.Fatal("Push", x)
		}
	}
	for _, x := range ids() {
		if !l.Has(x) && l.Drop(x) {
			t.Fatal("Drop", x)
		}
	}
	if l.Len() == 0 {
		if got := told(l.Pop()); got != (popped{}) {
			t.Fatal("Pop", got)
		}
	}
}

// What is refused changes nothing that a later call tells: one list has refused calls ahead of each of its calls, the other has none.
func TestP12_1WhatTellsFalseChangesNothing(t *testing.T) {
	for seed := 1; seed <= 20; seed++ {
		d := draw(seed * 7919)
		var l, plain list.List
		for i := range 60 {
			refused(t, &l)
			x, got, want := d.id(), any(nil), any(nil)
			switch d.below(4) {
			case 0:
				got, want = told(l.Pop()), told(plain.Pop())
			case 1:
				got, want = l.Drop(x), plain.Drop(x)
			default:
				got, want = l.Push(x), plain.Push(x)
			}
			if got != want || l.Len() != plain.Len() || !slices.Equal(l.All(), plain.All()) {
				t.Fatal(seed, i, x, got, want, l.All(), plain.All())
			}
		}
	}
}

// spoil writes all over a list that was handed out, into its spare room too.
func spoil(l []api.ID) {
	l = l[:cap(l)]
	for i := range l {
		l[i] = id(99, 99)
	}
	_ = append(l[:0], id(98, 98))
	_ = append(l, id(97, 97))
}

func TestP12_1AllIsNewMemory(t *testing.T) {
	for n := range 20 {
		b := begin(t)
		for i := range n {
			b.push(t, id(i%3, n-i))
			spoil(b.list.All())
			b.check(t, "spoilt", i)
		}
		first, second := b.list.All(), b.list.All()
		spoil(first)
		if !slices.Equal(second, b.model) {
			t.Fatal("of two lists, one shows what is written into the other:", second)
		}
		first = append(b.list.All(), id(5, 5))
		second = append(b.list.All(), id(6, 6))
		if first[n] != id(5, 5) || second[n] != id(6, 6) {
			t.Fatal("of two lists, one shows what is appended to the other:", first, second)
		}
		spoil(b.list.All()[:0])
		b.check(t, "spoilt", n)
		b.ends(t, n%2 == 0)
	}
}

func TestP12_1AllStaysAsItWasHandedOut(t *testing.T) {
	b := some(t)
	was := b.list.All()
	room := append(was, id(8, 8))
	b.pop(t)
	b.drop(t, id(-1, 5))
	b.push(t, id(3, 1))
	b.push(t, id(7, 7))
	b.push(t, id(6, 6))
	if got := fmt.Sprint(was, room); got != "[{3 1} {1 2} {0 0} {-1 5} {2 2}] [{3 1} {1 2} {0 0} {-1 5} {2 2} {8 8}]" {
		t.Error(got)
	}
	b.stands(t, "[{1 2} {0 0} {2 2} {3 1} {7 7} {6 6}]")
}

func TestP12_1TwoListsAreApart(t *testing.T) {
	a, b, none := begin(t), begin(t), begin(t)
	for i, x := range ids() {
		a.push(t, x)
		if i%2 == 0 {
			b.push(t, x)
		}
		if i%3 == 0 && (!a.drop(t, x) || b.list.Has(x) != (i%2 == 0)) {
			t.Fatal(x)
		}
		if i%4 == 0 {
			b.pop(t)
		}
		a.check(t, "of the other", x)
	}
	b.check(t, "of the other", "")
	none.stands(t, "[]")
	a.ends(t, false)
	b.ends(t, true)
}
