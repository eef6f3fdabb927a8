package space_test

import (
	"slices"
	"testing"

	"ringkern/api"
	"ringkern/space"
)

func TestP10_1OfTheZeroValue(t *testing.T) {
	b := newBoth()
	b.check(t, "at first")
	for _, p := range append(noPages(), pages()...) {
		if f, is := b.maps.Get(p); is || f != to(0, 0) {
			t.Fatal("Get", p, f, is)
		}
		if b.maps.Clear(p) {
			t.Fatal("Clear", p)
		}
	}
	for _, n := range units() {
		if b.maps.Drop(n) != 0 || b.maps.Empty(n) != 0 {
			t.Fatal("Drop or Empty", n)
		}
	}
	b.check(t, "behind what changes nothing")
	if !b.set(t, page(1, 0), to(1, 1)) {
		t.Error("nothing can be set")
	}
}

func TestP10_1SetAtTheEdges(t *testing.T) {
	for _, x := range []struct {
		p    api.Page
		f    api.Map1
		want bool
	}{
		{page(1, 0), to(1, 1), true}, {page(1, -1), to(1, 1), false}, {page(1, 7), to(1, 1), true}, {page(1, 8), to(1, 1), false},
		{page(64, 0), to(64, 3), true}, {page(64, -1), to(64, 3), false}, {page(64, 7), to(64, 3), true}, {page(64, 8), to(64, 3), false},
		{page(0, 0), to(5, 3), false}, {page(0, 7), to(5, 3), false}, {page(65, 0), to(5, 3), false}, {page(65, 7), to(5, 3), false}, {page(-1, 3), to(5, 3), false},
		{page(5, 3), to(0, 3), false}, {page(5, 3), to(-1, 3), false}, {page(5, 3), to(65, 3), false}, {page(5, 3), to(1, 3), true}, {page(5, 3), to(64, 3), true},
		{page(5, 3), to(9, 0), false}, {page(5, 3), to(9, 1), true}, {page(5, 3), to(9, 2), true}, {page(5, 3), to(9, 3), true},
		{page(5, 3), to(9, 4), false}, {page(5, 3), to(9, 5), false}, {page(5, 3), to(9, 7), false}, {page(5, 3), to(9, -1), false}, {page(5, 3), to(0, 0), false}, {page(0, 8), to(0, 0), false},
	} {
		b := newBoth()
		if got := b.set(t, x.p, x.f); got != x.want {
			t.Errorf("Set(%v, %v): %v", x.p, x.f, got)
		}
		f, is := b.maps.Get(x.p)
		if is != x.want || is && f != x.f || !is && f != to(0, 0) {
			t.Errorf("Get(%v): %v, %v", x.p, f, is)
		}
		if n := len(b.maps.All()); n > 1 || (n == 1) != x.want {
			t.Errorf("All, behind Set(%v, %v): %d", x.p, x.f, n)
		}
	}
}

func TestP10_1SetOfEachPage(t *testing.T) {
	b := full(t)
	if n := len(b.maps.All()); n != 512 {
		t.Error("there are", n)
	}
	for _, p := range pages() {
		f, _ := b.maps.Get(p)
		if b.maps.Set(p, f) || b.maps.Set(p, to(65-f.Frame, 4-f.Rights)) || b.maps.Set(p, to(0, 0)) {
			t.Fatal("a second one at", p)
		}
	}
	b.check(t, "behind a second one at each")
}

func TestP10_1SetOfEachPageNumber(t *testing.T) {
	b := newBoth()
	for _, s := range units() {
		for _, n := range pageNumbers() {
			want := 1 <= s && s <= 64 && 0 <= n && n <= 7
			if got := b.maps.Set(page(s, n), to(5, 2)); got != want {
				t.Fatalf("Set of %v: %v", page(s, n), got)
			}
			b.model.set(page(s, n), to(5, 2))
		}
	}
	b.check(t, "of each page number")
	if n := len(b.maps.All()); n != 5*5 {
		t.Error("there are", n)
	}
}

func TestP10_1SetOfEachFrameAndRights(t *testing.T) {
	b := newBoth()
	for frame := -2; frame <= 67; frame++ {
		for rights := -9; rights <= 9; rights++ {
			want := 1 <= frame && frame <= 64 && 1 <= rights && rights <= 3
			if got := b.maps.Set(page(9, 5), to(frame, rights)); got != want {
				t.Fatalf("Set(%d, %d): %v", frame, rights, got)
			}
			if f, is := b.maps.Get(page(9, 5)); is != want || is && f != to(frame, rights) {
				t.Fatalf("Get, behind Set(%d, %d): %v, %v", frame, rights, f, is)
			}
			if b.maps.Clear(page(9, 5)) != want {
				t.Fatalf("Clear, behind Set(%d, %d)", frame, rights)
			}
		}
	}
	for _, n := range far() {
		for _, f := range []api.Map1{to(n, 3), to(n, 0), to(n, n), to(5, n), to(64, n), to(0, n)} {
			if b.maps.Set(page(9, 5), f) {
				t.Fatal("Set", f)
			}
		}
	}
	b.check(t, "behind what is refused")
}

// Each of the faults with each other one: none is missed, and none changes anything.
func TestP10_1SetOfSeveralFaults(t *testing.T) {
	b := some(t)
	for _, p := range []api.Page{page(3, 0), page(5, 0), page(3, 8), page(3, -1), page(0, 3), page(65, 3), page(0, 8)} {
		for _, f := range []api.Map1{to(7, 3), to(0, 3), to(65, 3), to(7, 0), to(7, 4), to(0, 4), to(65, -1)} {
			want := p == page(5, 0) && f == to(7, 3)
			if got := b.set(t, p, f); got != want {
				t.Errorf("Set(%v, %v): %v", p, f, got)
			}
			if want {
				b.clear(t, p)
			}
		}
	}
}

func TestP10_1SetOfAMappedPage(t *testing.T) {
	b := some(t)
	for _, p := range b.maps.All() {
		was, _ := b.maps.Get(p)
		for _, f := range []api.Map1{was, to(was.Frame, 4-was.Rights), to(65-was.Frame, was.Rights), to(12, 3)} {
			if b.set(t, p, f) {
				t.Errorf("Set(%v, %v), where %v is", p, f, was)
			}
		}
	}
	b.stays(t, "[{1 0} {1 7} {2 7} {3 0} {3 1} {3 3} {3 7} {7 1} {10 3} {64 0} {64 7}] [{64 1} {3 1} {1 3} {7 3} {7 1} {3 2} {10 2} {2 3} {3 1} {64 2} {3 3}]")
}

func TestP10_1GetAndClearOfPagesThatCantBe(t *testing.T) {
	b := full(t)
	for _, p := range noPages() {
		if f, is := b.maps.Get(p); is || f != to(0, 0) {
			t.Fatal("Get", p, f, is)
		}
		if b.maps.Clear(p) || b.maps.Set(p, to(5, 3)) {
			t.Fatal("Clear or Set", p)
		}
	}
	b.check(t, "behind pages that can't be")
}

func TestP10_1ClearOfOnePage(t *testing.T) {
	for _, p := range some(t).maps.All() {
		b := some(t)
		if !b.clear(t, p) || b.clear(t, p) || len(b.maps.All()) != 10 {
			t.Errorf("Clear(%v)", p)
		}
		if !b.set(t, p, to(33, 2)) || b.set(t, p, to(34, 2)) {
			t.Errorf("Set(%v), when it was cleared", p)
		}
	}
}

func TestP10_1ClearInEachOrder(t *testing.T) {
	l := some(t).maps.All()
	for step := 1; step < len(l); step++ {
		b := some(t)
		for i := range l {
			if !b.clear(t, l[(3+i*step)%len(l)]) {
				t.Error("Clear", i, step)
			}
		}
		b.stays(t, "[] []")
	}
}

func TestP10_1DropClearsEachPageOfAFrame(t *testing.T) {
	b := some(t)
	if n := b.drop(t, 3); n != 4 {
		t.Error("Drop(3):", n)
	}
	b.stays(t, "[{1 0} {2 7} {3 0} {3 1} {3 7} {7 1} {64 0}] [{64 1} {1 3} {7 3} {7 1} {10 2} {2 3} {64 2}]")
	if n := b.drop(t, 3); n != 0 {
		t.Error("Drop(3) again:", n)
	}
	if n := b.drop(t, 64); n != 2 {
		t.Error("Drop(64):", n)
	}
	if n := b.drop(t, 1); n != 1 {
		t.Error("Drop(1):", n)
	}
	b.stays(t, "[{3 0} {3 1} {3 7} {7 1}] [{7 3} {7 1} {10 2} {2 3}]")
	if !b.set(t, page(1, 0), to(3, 2)) || !b.set(t, page(10, 3), to(3, 3)) || b.set(t, page(3, 7), to(3, 3)) || b.drop(t, 3) != 2 {
		t.Error("what was dropped, set again")
	}
	if b.drop(t, 7) != 2 || b.drop(t, 10) != 1 || b.drop(t, 2) != 1 {
		t.Error("the others")
	}
	b.stays(t, "[] []")
}

func TestP10_1EmptyClearsEachPageOfASpace(t *testing.T) {
	b := some(t)
	if n := b.empty(t, 3); n != 4 {
		t.Error("Empty(3):", n)
	}
	b.stays(t, "[{1 0} {1 7} {2 7} {7 1} {10 3} {64 0} {64 7}] [{64 1} {3 1} {1 3} {2 3} {3 1} {64 2} {3 3}]")
	if n := b.empty(t, 3); n != 0 {
		t.Error("Empty(3) again:", n)
	}
	if n := b.empty(t, 64); n != 2 {
		t.Error("Empty(64):", n)
	}
	if n := b.empty(t, 1); n != 2 {
		t.Error("Empty(1):", n)
	}
	b.stays(t, "[{2 7} {7 1} {10 3}] [{1 3} {2 3} {3 1}]")
	if !b.set(t, page(3, 0), to(3, 2)) || !b.set(t, page(3, 7), to(4, 3)) || b.set(t, page(2, 7), to(3, 3)) || b.empty(t, 3) != 2 {
		t.Error("what was emptied, set again")
	}
	if b.empty(t, 2) != 1 || b.empty(t, 7) != 1 || b.empty(t, 10) != 1 {
		t.Error("the others")
	}
	b.stays(t, "[] []")
}

func TestP10_1DropAndEmptyOfOneThatIsOnNoPage(t *testing.T) {
	b := some(t)
	for _, n := range append(far(), 0, 4, 5, 8, 63, 65) {
		if b.drop(t, n) != 0 || b.empty(t, n) != 0 {
			t.Error("Drop or Empty", n)
		}
	}
	if b.drop(t, 9) != 0 || b.empty(t, 9) != 0 || b.empty(t, 63) != 0 {
		t.Error("Drop or Empty of one on no page")
	}
	if len(b.maps.All()) != 11 {
		t.Error("there are", b.maps.All())
	}
}

func TestP10_1DropAndEmptyOfAll(t *testing.T) {
	b, left := full(t), 512
	for i := range 64 {
		left -= b.drop(t, i*37%64+1)
		if got := len(b.maps.All()); got != left {
			t.Fatal("All behind Drop:", got, left)
		}
	}
	if left != 0 {
		t.Error("left behind each Drop:", left)
	}
	b = full(t)
	for i := range 64 {
		if n := b.empty(t, i*37%64+1); n != 8 {
			t.Error("Empty:", n)
		}
	}
	b.stays(t, "[] []")
}

// One frame has all pages; then one space and one frame have as many as can be.
func TestP10_1OneFrameOnAllPages(t *testing.T) {
	b := newBoth()
	for _, p := range scattered() {
		b.maps.Set(p, to(64, 1))
		b.model.set(p, to(64, 1))
	}
	b.check(t, "one frame on all pages")
	if b.empty(t, 64) != 8 || b.drop(t, 63) != 0 || b.drop(t, 64) != 504 || b.drop(t, 64) != 0 || b.empty(t, 1) != 0 {
		t.Error("Drop")
	}
}

func TestP10_1AllBySpaceThenPage(t *testing.T) {
	b := begin(t, line{page(10, 0), to(1, 1)}, line{page(2, 7), to(64, 3)}, line{page(9, 1), to(5, 1)}, line{page(2, 0), to(1, 2)},
		line{page(64, 0), to(2, 1)}, line{page(1, 7), to(63, 3)}, line{page(9, 0), to(5, 1)}, line{page(10, 7), to(1, 1)}, line{page(10, 3), to(1, 3)})
	b.stays(t, "[{1 7} {2 0} {2 7} {9 0} {9 1} {10 0} {10 3} {10 7} {64 0}] [{63 3} {1 2} {64 3} {5 1} {5 1} {1 1} {1 3} {1 1} {2 1}]")
}

// Asked often, as the order of a map is another one at each go.
func TestP10_1AllIsTheSameAtEachRun(t *testing.T) {
	b := some(t)
	want := b.maps.All()
	for range 200 {
		if got := b.maps.All(); !slices.Equal(got, want) {
			t.Fatal(got, want)
		}
	}
}

func TestP10_1AllIsNewMemory(t *testing.T) {
	b := some(t)
	first, second := b.maps.All(), b.maps.All()
	want := slices.Clone(second)
	_ = append(first, page(9, 9))
	first = first[:cap(first)]
	for i := range first {
		first[i] = page(-7, -7)
	}
	if !slices.Equal(second, want) || !slices.Equal(append(second, page(8, 8)), append(want, page(8, 8))) {
		t.Error("one list shows what was written into another one:", second)
	}
	b.check(t, "behind a write to a list")
	kept := b.maps.All()
	b.empty(t, 3)
	b.set(t, page(2, 2), to(2, 2))
	if !slices.Equal(kept, want) {
		t.Error("a list shows a later call:", kept)
	}
}

func TestP10_1MapsApart(t *testing.T) {
	a, b := some(t), begin(t, line{page(3, 0), to(3, 1)})
	b.set(t, page(5, 5), to(7, 1))
	b.drop(t, 3)
	b.empty(t, 5)
	a.check(t, "behind calls on others")
	b.stays(t, "[] []")
	var c space.Maps
	if len(c.All()) != 0 {
		t.Error("new ones show others' pages")
	}
}
